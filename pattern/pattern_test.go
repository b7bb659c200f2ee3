package pattern

import (
	"strings"
	"testing"

	"provost/api"
)

func lit(c int) api.Rx            { return api.Rx{Kind: api.RxSet, Set: []api.Range{{From: c, To: c}}} }
func rx(kind uint8, n int) api.Rx { return api.Rx{Kind: kind, Many: n} }
func rep(least, most int) api.Rx {
	return api.Rx{Kind: api.RxRepeat, Many: 1, Least: least, Most: most}
}
func span(n ...int) api.Rx {
	x := api.Rx{Kind: api.RxSet}
	for i := 0; i < len(n); i += 2 {
		x.Set = append(x.Set, api.Range{From: n[i], To: n[i+1]})
	}
	return x
}

const top = api.MaxPoint

// P7.2: what texts tell, and the text of that.
func TestParse(t *testing.T) {
	for _, c := range []struct {
		s    string
		want []api.Rx
		text string
	}{
		{"a|b*", []api.Rx{rx(api.RxAlt, 2), lit('a'), rep(0, -1), lit('b')}, "a|b*"},
		{"(ab)c{2,3}", []api.Rx{rx(api.RxCat, 2), rx(api.RxCat, 2), lit('a'), lit('b'), rep(2, 3), lit('c')}, "(ab)c{2,3}"},
		{"[^a-c]", []api.Rx{span(0, 0x60, 0x64, top)}, "[\\u000000-`d-\U0010ffff]"},
		{"", []api.Rx{{}}, ""}, {"()", []api.Rx{{}}, ""}, {"(((a)))", []api.Rx{lit('a')}, "a"},
		{"[]", []api.Rx{span()}, "[]"}, {"[^]", []api.Rx{span(0, top)}, "."}, {".", []api.Rx{span(0, top)}, "."},
		{"a|", []api.Rx{rx(api.RxAlt, 2), lit('a'), {}}, "a|"}, {"a()", []api.Rx{rx(api.RxCat, 2), lit('a'), {}}, "a()"},
		{"(a|b)|c", []api.Rx{rx(api.RxAlt, 2), rx(api.RxAlt, 2), lit('a'), lit('b'), lit('c')}, "(a|b)|c"},
		{"(a|b)c", []api.Rx{rx(api.RxCat, 2), rx(api.RxAlt, 2), lit('a'), lit('b'), lit('c')}, "(a|b)c"},
		{"a+b?c{02}d{3,}e{0,1}f{1,}g{0}", []api.Rx{rx(api.RxCat, 7), rep(1, -1), lit('a'), rep(0, 1), lit('b'), rep(2, 2), lit('c'), rep(3, -1), lit('d'), rep(0, 1), lit('e'), rep(1, -1), lit('f'), rep(0, 0), lit('g')}, "a+b?c{2}d{3,}e?f+g{0}"},
		{"(a*)*", []api.Rx{rep(0, -1), rep(0, -1), lit('a')}, "(a*)*"}, {"()*", []api.Rx{rep(0, -1), {}}, "()*"}, {"(ab)*", []api.Rx{rep(0, -1), rx(api.RxCat, 2), lit('a'), lit('b')}, "(ab)*"},
		{`\d`, []api.Rx{span('0', '9')}, "[0-9]"}, {`\w`, []api.Rx{span('0', '9', 'A', 'Z', '_', '_', 'a', 'z')}, "[0-9A-Z_a-z]"}, {`\s`, []api.Rx{span(9, 10, 13, 13, 32, 32)}, `[\u000009-\u00000a\u00000d ]`},
		{`[\d\s+]`, []api.Rx{span(9, 10, 13, 13, 32, 32, '+', '+', '0', '9')}, `[\u000009-\u00000a\u00000d \+0-9]`}, {`[a-a.(]`, []api.Rx{span('(', '(', '.', '.', 'a', 'a')}, `[\(\.a]`},
		{`[\u00000a-\-]`, []api.Rx{span(10, '-')}, `[\u00000a-\-]`}, {"-^", []api.Rx{rx(api.RxCat, 2), lit('-'), lit('^')}, `\-\^`},
		{`\n\r\t\u10FFff\u00d800`, []api.Rx{rx(api.RxCat, 5), lit(10), lit(13), lit(9), lit(top), lit(0xd800)}, `\u00000a\u00000d\u000009` + "\U0010ffff" + `\u00d800`},
		{`\.\[\]\(\)\*\+\?\{\}\|\\\-\^`, []api.Rx{rx(api.RxCat, 14), lit('.'), lit('['), lit(']'), lit('('), lit(')'), lit('*'), lit('+'), lit('?'), lit('{'), lit('}'), lit('|'), lit('\\'), lit('-'), lit('^')}, `\.\[\]\(\)\*\+\?\{\}\|\\\-\^`},
		{"\x7f\u00e9\x01", []api.Rx{rx(api.RxCat, 3), lit(127), lit(0xe9), lit(1)}, `\u00007f` + "\u00e9" + `\u000001`}, {"a,", []api.Rx{rx(api.RxCat, 2), lit('a'), lit(',')}, "a,"},
		{"[^\u0000-\U0010fffe]", []api.Rx{span(top, top)}, "\U0010ffff"}, {`\u00abcd\u00ABCD\u000eEF\u00dfff\u00e000`, []api.Rx{rx(api.RxCat, 5), lit(0xabcd), lit(0xabcd), lit(0xeef), lit(0xdfff), lit(0xe000)}, "\uabcd\uabcd\u0eef" + `\u00dfff` + "\ue000"}, {"a{9}b{09,10}", []api.Rx{rx(api.RxCat, 2), rep(9, 9), lit('a'), rep(9, 10), lit('b')}, "a{9}b{9,10}"}, {"a{16}", []api.Rx{rep(16, 16), lit('a')}, "a{16}"}, {"[b-da-c]", []api.Rx{span('a', 'd')}, "[a-d]"},
	} {
		got, e := Parse(c.s)
		if e != api.OK || !Same(got, c.want) || Check(got) != api.OK {
			t.Errorf("%q %v %v", c.s, got, e)
			continue
		}
		s, e := Text(got)
		if e != api.OK || s != c.text {
			t.Errorf("%q %q %v", c.s, s, e)
		}
		// P7.4: the text tells that pattern.
		if again, e := Parse(s); e != api.OK || !Same(again, got) {
			t.Errorf("%q %v %v", s, again, e)
		}
	}
}

func TestNoPattern(t *testing.T) {
	for _, s := range []string{"a**", "(", ")", "a)", "[b-a]", "a{17}", "\\q", "*", "+a", "|*", "a{", "a{}", "a{,2}", "a{2,1}", "a{100}", "a{1", "a{1,2", "a{0,17}", "{1}", "}", "]", "[", "[a", "[a-]", "[-a]", "[a^]", "[^^]", "[[]", "[a-\\d]", "[\\d-a]", "[\\q]", "\\", "\\u12345", "\\u110000", "\\u00000g", "(a", "(?a)", "a{ 1}", "a+?", "[a-b-c]", "\\u0000"} {
		if got, e := Parse(s); e != api.ErrRegex || got != nil {
			t.Errorf("%q %v %v", s, got, int(e))
		}
	}
}

// P7.2: limits, and which goes ahead.
func TestTooMuch(t *testing.T) {
	deep := func(n int) string { return strings.Repeat("(a|", n) + "a" + strings.Repeat(")", n) }
	var wide, odd strings.Builder
	for i := range 300 {
		wide.WriteRune(rune(0x400 + 2*i))
		if i < 256 {
			odd.WriteRune(rune(0x400 + 2*i))
		}
	}
	for s, want := range map[string]api.Errno{
		strings.Repeat("a", 63): api.OK, strings.Repeat("a", 64): api.ErrMany, deep(16): api.OK, deep(17): api.ErrNest, deep(40): api.ErrMany, deep(5000): api.ErrMany,
		strings.Repeat("a", 64) + "(": api.ErrRegex, deep(17) + "*": api.OK + api.ErrNest, deep(17) + ")": api.ErrRegex,
		"[" + wide.String() + "]": api.ErrMany, "[" + wide.String() + "](": api.ErrRegex, "[" + wide.String() + "]" + deep(17): api.ErrNest, "[" + odd.String() + "]": api.OK, "[^" + odd.String() + "]": api.ErrMany,
		"[" + wide.String() + "\u0400-\u0fff]": api.OK, "[^\\u000000" + odd.String()[2:] + "\\u10ffff]": api.OK,
		"\xff": api.ErrUtf, strings.Repeat("(", api.MaxBytes): api.ErrRegex, strings.Repeat("(", 8000) + strings.Repeat(")", 8000): api.OK, strings.Repeat("a", api.MaxBytes+1): api.ErrMany,
	} {
		got, e := Parse(s)
		if e != want || e != api.OK && got != nil {
			t.Errorf("%.40q %v %v", s, int(e), int(want))
		}
	}
}

// P7.1
func TestCheck(t *testing.T) {
	deep := func(n int) []api.Rx {
		var l []api.Rx
		for range n {
			l = append(l, rep(0, 1))
		}
		return append(l, api.Rx{})
	}
	wide := []api.Rx{rx(api.RxAlt, 63)}
	for range 63 {
		wide = append(wide, api.Rx{})
	}
	for _, l := range [][]api.Rx{deep(16), wide, {rep(16, 16), lit(0)}, {rep(16, -1), lit(0)}} {
		if e := Check(l); e != api.OK {
			t.Error(l, e)
		}
		s, e := Text(l)
		if e != api.OK {
			t.Error(l, e)
		}
		if again, e := Parse(s); e != api.OK || !Same(again, l) {
			t.Error(s, e)
		}
	}
	big := append([]api.Rx{rx(api.RxAlt, 64)}, make([]api.Rx, 64)...)
	for i, l := range [][]api.Rx{nil, deep(17), big, {{}, {}}, {rx(api.RxCat, 2), {}}, {rx(api.RxCat, 1), {}}, {rx(api.RxAlt, 0)}, {rx(api.RxCat, -1)}, {rx(api.RxEmpty, 1), {}}, {rx(5, 0)}, {rep(17, -1), {}}, {rep(2, 1), {}}, {rep(0, 17), {}}, {rep(0, -2), {}}, {rep(-1, 0), {}}, {{Kind: api.RxRepeat, Many: 2}, {}, {}}, {span(2, 1)}, {span(1, 1, 2, 2)}, {{Set: []api.Range{{}}}}, {{Least: 1}}, {{Most: -1}}, {{Kind: api.RxSet, Many: 1}, {}}, {{Kind: api.RxCat, Many: 1 << 62}, {}, {}}} {
		if e := Check(l); e != api.ErrBad {
			t.Error(i, e)
		}
		if s, e := Text(l); e != api.ErrBad || s != "" {
			t.Error(i, e)
		}
		if n, e := End(l, -1); e != api.ErrBad || n != 0 {
			t.Error(i, e)
		}
	}
	l := []api.Rx{rx(api.RxCat, 2), rep(0, 1), lit('a'), lit('b')}
	for at, want := range []int{4, 3, 3, 4} {
		if n, e := End(l, at); n != want || e != api.OK {
			t.Error(at, n, e)
		}
	}
	for _, at := range []int{-1, 4} {
		if n, e := End(l, at); n != 0 || e != api.ErrArg {
			t.Error(at, n, e)
		}
	}
	if Same(l, l[1:]) || Same(l, []api.Rx{l[0], l[1], l[3], l[2]}) || !Same(nil, []api.Rx{}) {
		t.Error("same")
	}
}
