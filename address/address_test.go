package address

import (
	"strconv"
	"strings"
	"testing"

	"provost/api"
)

// P15.1: the examples, and each part.
func TestParse(t *testing.T) {
	for s, want := range map[string]struct {
		a     api.Address
		canon string
	}{
		"HTTP://Ex%41mple.com:/%7ea?b=%2f": {api.Address{Scheme: "HTTP", Host: "Ex%41mple.com", Path: "/%7ea", Query: "b=%2f", HasQuery: true}, "http://example.com/~a?b=%2F"},
		"a://u:p@h:80":                     {api.Address{Scheme: "a", User: "u:p", HasUser: true, Host: "h", Port: "80"}, "a://u:p@h:80"},
		"file:///x":                        {api.Address{Scheme: "file", Path: "/x"}, "file:///x"}, "x://": {api.Address{Scheme: "x"}, "x://"}, "x://:": {api.Address{Scheme: "x"}, "x://"}, "x://@": {api.Address{Scheme: "x", HasUser: true}, "x://@"}, "x://?": {api.Address{Scheme: "x", HasQuery: true}, "x://?"},
		"x://h?a?b/@:":      {api.Address{Scheme: "x", Host: "h", Query: "a?b/@:", HasQuery: true}, "x://h?a?b/@:"},
		"x://h/a@b:c//d":    {api.Address{Scheme: "x", Host: "h", Path: "/a@b:c//d"}, "x://h/a@b:c//d"},
		"x://h:7?q":         {api.Address{Scheme: "x", Host: "h", Port: "7", Query: "q", HasQuery: true}, "x://h:7?q"},
		"A1+-.://%C3%a9:00": {api.Address{Scheme: "A1+-.", Host: "%C3%a9", Port: "00"}, "a1+-.://%C3%A9:00"},
		"x://U%4a%3a@H%3A%4A/P%4a%2E%2541?%5f%5B": {api.Address{Scheme: "x", User: "U%4a%3a", HasUser: true, Host: "H%3A%4A", Path: "/P%4a%2E%2541", Query: "%5f%5B", HasQuery: true}, "x://UJ%3A@h%3Aj/PJ.%2541?_%5B"},
		"x://!$&'()*+,;=-._~":                     {api.Address{Scheme: "x", Host: "!$&'()*+,;=-._~"}, "x://!$&'()*+,;=-._~"},
		"x://h/://y":                              {api.Address{Scheme: "x", Host: "h", Path: "/://y"}, "x://h/://y"},
	} {
		a, e := Parse(s)
		if a != want.a || e != api.OK || Check(a) != api.OK {
			t.Error(s, a, e)
		}
		c, e := Canon(s)
		if c != want.canon || e != api.OK {
			t.Error(s, c, e)
		}
		if again, e := Canon(c); again != c || e != api.OK {
			t.Error(c, again, e)
		}
		// P15.2: parts' text tells them.
		x, e := Text(a)
		if back, f := Parse(x); back != a || e != api.OK || f != api.OK {
			t.Error(x, back, e, f)
		}
	}
	for _, s := range []string{"", "//h", "1a://h", "a:b", "a://h/#f", "a://[::1]", "a://h:8x", "a://%4", "://h", "a:/h", "a//h", "a ://h", "a://h h", "a://h/\"", "a://h/%", "a://h/%zz", "a://h/%4g", "a://u@v@h", "a://h:1:2", "a://h?#", "a://h\\", "a://\u00e9", "a://h/\xff", "a://h/^", "a://h|", "a%41://h", "a_b://h", "a://h:%31", "a:b://h", "a/b://h", "a?b://h"} {
		if a, e := Parse(s); a != (api.Address{}) || e != api.ErrUrl {
			t.Error(s, a, e)
		}
		if c, e := Canon(s); c != "" || e != api.ErrUrl {
			t.Error(s, c, e)
		}
	}
}

func TestCheck(t *testing.T) {
	long := strings.Repeat("a", api.MaxUrl-4)
	for _, a := range []api.Address{{Scheme: "a", Host: long}, {Scheme: "a", HasUser: true, HasQuery: true}} {
		if Check(a) != api.OK {
			t.Error(a)
		}
	}
	if s, e := Text(api.Address{Scheme: "a", Host: long}); len(s) != api.MaxUrl || e != api.OK {
		t.Error(e)
	}
	if _, e := Parse("a://" + long); e != api.OK {
		t.Error(e)
	}
	if _, e := Parse("a://" + long[1:] + ":"); e != api.OK {
		t.Error(e)
	}
	if _, e := Parse("a://" + long + ":"); e != api.ErrUrl {
		t.Error(e)
	}
	for _, a := range []api.Address{{}, {Scheme: "a", Host: long + "a"}, {Scheme: "a", User: "u"}, {Scheme: "a", Query: "q"}, {Scheme: "a", Path: "p"}, {Scheme: "a", Host: "h:1"}, {Scheme: "a", Host: "u@h"}, {Scheme: "a", HasUser: true, User: "a@b"}, {Scheme: "a", HasUser: true, User: "a/b"}, {Scheme: "a", Path: "/?"}, {Scheme: "a", Port: "1a"}, {Scheme: "a", Port: "-1"}, {Scheme: "-a"}, {Scheme: "a:"}, {Scheme: "a", HasQuery: true, Query: "#"}, {Scheme: "a", Host: "%4"}} {
		if Check(a) != api.ErrUrl {
			t.Error(a)
		}
		if s, e := Text(a); s != "" || e != api.ErrUrl {
			t.Error(a, s, e)
		}
	}
}

// Each byte may stand just where the chapter lets it.
func TestBytes(t *testing.T) {
	const free = small + great + nums + "-._~"
	const more = free + "!$&'()*+,;="
	for b := range 256 {
		s := string([]byte{byte(b)})
		is := func(l string) api.Errno {
			if strings.Contains(l, s) {
				return api.OK
			}
			return api.ErrUrl
		}
		for _, c := range []struct {
			a api.Address
			l string
		}{{api.Address{Scheme: "a" + s}, small + great + nums + "+-."}, {api.Address{Scheme: s}, small + great}, {api.Address{Scheme: "a", Host: s}, more}, {api.Address{Scheme: "a", HasUser: true, User: s}, more + ":"}, {api.Address{Scheme: "a", Port: s}, nums}, {api.Address{Scheme: "a", Path: "/" + s}, more + ":@/"}, {api.Address{Scheme: "a", HasQuery: true, Query: s}, more + ":@/?"}} {
			if Check(c.a) != is(c.l) {
				t.Errorf("%d %v", b, c.a)
			}
		}
	}
}

// Which two digits make an escape.
func TestEscapes(t *testing.T) {
	const hex = "0123456789abcdefABCDEF"
	for b := range 256 {
		s := string([]byte{byte(b)})
		for _, c := range []string{"%" + s + "0", "%0" + s, "%f" + s, "%" + s + "F"} {
			want := api.ErrUrl
			if strings.Contains(hex, s) {
				want = api.OK
			}
			if e := Check(api.Address{Scheme: "a", Host: c}); e != want {
				t.Errorf("%q %v", c, e)
			}
			if want != api.OK {
				continue
			}
			n, _ := strconv.ParseUint(c[1:], 16, 8)
			text := strings.ToUpper(c)
			if n < 128 && strings.Contains(small+great+nums+"-._~", string(rune(n))) {
				text = string(rune(n))
			}
			if got, e := Canon("a://h/" + c); got != "a://h/"+text || e != api.OK {
				t.Errorf("%q %q", c, got)
			}
		}
	}
}
