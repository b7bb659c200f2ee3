package tongue

import (
	"slices"
	"strings"
	"testing"

	"provost/api"
	"provost/pattern"
)

func parse(t *testing.T, s string) []api.Rx {
	t.Helper()
	p, e := pattern.Parse(s)
	if e != api.OK {
		t.Fatal(s, e)
	}
	return p
}

func points(s string) []int {
	var l []int
	for _, r := range s {
		l = append(l, int(r))
	}
	return l
}

// P8.1: the examples, and each kind of nodes.
func TestIn(t *testing.T) {
	for _, c := range []struct{ p, in, out string }{
		{"(ab)*c", "c ababc abc", "abab ac "}, {"a{2,3}", "aa aaa", "a aaaa"}, {"()*", "", "a"}, {"a|bc|", "a bc", "b abc c"}, {"a{0}", "", "a"}, {"(a|ab)(c|bcd)", "ac abc abcd abbcd", "ab abcc"},
		{"a{3,}", "aaa aaaaaa", "a aa"}, {"(a?){2,3}", "a aa aaa", "aaaa b"}, {"[^a]b", "bb cb", "ab b"}, {"(a*)*b", "b aab", "aa"}, {"(a+b?)+", "a aba aab", "b abb"}, {".*x", "x abx xx", "xa"},
	} {
		p := parse(t, c.p)
		for _, s := range strings.Split(c.in, " ") {
			if is, e := In(p, points(s)); !is || e != api.OK {
				t.Error(c.p, s, e)
			}
		}
		for _, s := range strings.Fields(c.out) {
			if is, e := In(p, points(s)); is || e != api.OK {
				t.Error(c.p, s, e)
			}
		}
	}
	for _, s := range []string{"", "a"} {
		if is, e := In(parse(t, "[]"), points(s)); is || e != api.OK {
			t.Error(s, e)
		}
	}
	if is, e := In(parse(t, "."), []int{api.MaxPoint}); !is || e != api.OK {
		t.Error(e)
	}
	for _, n := range []int{-1, api.MaxPoint + 1} {
		if is, e := In(parse(t, "."), []int{n}); is || e != api.OK {
			t.Error(n, e)
		}
	}
}

func TestEnds(t *testing.T) {
	for _, c := range []struct {
		p, s string
		at   int
		want []int
	}{{"a*", "aab", 0, []int{0, 1, 2}}, {"a*", "aab", 2, []int{2}}, {"a", "aab", 2, nil}, {"", "aab", 3, []int{3}}, {"a|aab|b", "aab", 0, []int{1, 3}}, {"(a|b){1,2}", "aab", 1, []int{2, 3}}} {
		if got, e := Ends(parse(t, c.p), points(c.s), c.at); e != api.OK || !slices.Equal(got, c.want) {
			t.Error(c.p, got, e)
		}
	}
	for _, at := range []int{-1, 4, 1 << 40} {
		if got, e := Ends(parse(t, "a"), points("aab"), at); e != api.ErrArg || got != nil {
			t.Error(at, got, e)
		}
	}
	if _, e := Ends([]api.Rx{{Kind: 9}}, make([]int, 2000), -1); e != api.ErrBad {
		t.Error(e)
	}
	if _, e := Ends([]api.Rx{{}}, make([]int, api.MaxWord+1), -1); e != api.ErrMany {
		t.Error(e)
	}
	if is, e := In([]api.Rx{{}}, make([]int, api.MaxWord+1)); e != api.ErrMany || is {
		t.Error(e)
	}
	if is, e := In(nil, nil); e != api.ErrBad || is {
		t.Error(e)
	}
}

// match is the language once more, in the words of the chapter, for short words.
func match(t []api.Rx, s []int) bool {
	n := t[0]
	split := func(a, b []api.Rx) bool {
		for i := range len(s) + 1 {
			if match(a, s[:i]) && match(b, s[i:]) {
				return true
			}
		}
		return false
	}
	switch n.Kind {
	case api.RxEmpty:
		return len(s) == 0
	case api.RxSet:
		return len(s) == 1 && slices.ContainsFunc(n.Set, func(r api.Range) bool { return r.From <= s[0] && s[0] <= r.To })
	}
	first, _ := pattern.End(t, 1)
	rest := slices.Clone(t[first-1:])
	rest[0] = api.Rx{Kind: n.Kind, Many: n.Many - 1}
	if n.Many == 2 {
		rest = t[first:]
	}
	switch n.Kind {
	case api.RxCat:
		return split(t[1:first], rest)
	case api.RxAlt:
		return match(t[1:first], s) || match(rest, s)
	}
	once := slices.Clone(t)
	once[0].Least = max(0, n.Least-1)
	if n.Most > 0 {
		once[0].Most = n.Most - 1
	}
	if n.Least == 0 && (len(s) == 0 || n.Most == 0) {
		return len(s) == 0
	}
	if n.Least > 0 {
		return split(t[1:], once)
	}
	for i := 1; i <= len(s); i++ {
		if match(t[1:], s[:i]) && match(once, s[i:]) {
			return true
		}
	}
	return false
}

// P8.1, P8.3: all words of up to five letters.
func TestAgainstDefinition(t *testing.T) {
	for _, p := range []string{"(a|b)*abb", "(a?b){2}", "(a|bb){1,2}a*", "((a|)b?){0,2}", "(a{2})*|b{2,}", "(a(ba)*)?b", "((a*)b*){1,}", "(ab|a)(b|ba)?", "(a{1,2}){0}|[]|b", "(()|a){3}"} {
		l := parse(t, p)
		for n := range 6 {
			for w := range 1 << n {
				var s []int
				for i := range n {
					s = append(s, 'a'+w>>i&1)
				}
				if is, e := In(l, s); e != api.OK || is != match(l, s) {
					t.Fatal(p, s, is)
				}
			}
		}
	}
}

// P1: repetitions in each other end in time.
func TestHeavy(t *testing.T) {
	nest := func(atom string, q string, n int) string {
		return strings.Repeat("(", n) + atom + strings.Repeat(")"+q, n)
	}
	word := points(strings.Repeat("a", api.MaxWord))
	for p, want := range map[string]bool{
		nest("", "{16}", 15): false, nest("a", "{16}", 15): false, nest("a?", "{16}", 15): true, nest("a*", "*", 15): true, nest("a|()", "{15,16}", 15): true,
		"(((((a*x|a)*y|a)*z|a)*v|a)*w|a)*": true, nest(".+", "{2}", 10): true, nest("(a|a)", "{1,16}", 7): true,
	} {
		if is, e := In(parse(t, p), word); is != want || e != api.OK {
			t.Error(p, is, e)
		}
	}
}
