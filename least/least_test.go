package least

import (
	"slices"
	"strings"
	"testing"

	"provost/api"
	"provost/auto"
	"provost/pattern"
	"provost/subset"
	"provost/tongue"
)

func parse(t *testing.T, s string) []api.Rx {
	t.Helper()
	p, e := pattern.Parse(s)
	if e != api.OK {
		t.Fatal(s, e)
	}
	return p
}

func compile(t *testing.T, s string) api.Dfa {
	t.Helper()
	d, e := Compile(parse(t, s))
	if e != api.OK || subset.Check(d) != api.OK {
		t.Fatal(s, e)
	}
	return d
}

// P11.1: the examples.
func TestLeast(t *testing.T) {
	want := api.Dfa{Cuts: []int{0, 97, 99}, Next: [][]int{{1, 0, 1}, {1, 1, 1}}, Accept: []bool{true, false}}
	for _, s := range []string{"(a|b)*", "(a*b*)*", "[ab]*", "(a?b?){0,}"} {
		if d := compile(t, s); !subset.Same(d, want) {
			t.Error(s, d)
		}
	}
	two := api.Dfa{Cuts: []int{0}, Next: [][]int{{1}, {0}}, Accept: []bool{true, true}}
	if d, e := Least(two); e != api.OK || !subset.Same(d, api.Dfa{Cuts: []int{0}, Next: [][]int{{0}}, Accept: []bool{true}}) {
		t.Error(d, e)
	}
	// A state that is not come to is left out, and a cut at which nothing changes.
	odd := api.Dfa{Cuts: []int{0, 5, 9}, Next: [][]int{{2, 2, 0}, {0, 1, 0}, {2, 2, 2}}, Accept: []bool{false, true, true}}
	if d, e := Least(odd); e != api.OK || !subset.Same(d, api.Dfa{Cuts: []int{0, 9}, Next: [][]int{{1, 0}, {1, 1}}, Accept: []bool{false, true}}) {
		t.Error(d, e)
	}
	if d, e := Least(api.Dfa{}); e != api.ErrBad || d.Cuts != nil {
		t.Error(d, e)
	}
	if odd.Next[0][0] != 2 || len(odd.Cuts) != 3 {
		t.Error("changed")
	}
	d, _ := Least(two)
	d.Cuts[0], d.Next[0][0], d.Accept[0] = 7, 7, false
	if two.Cuts[0] != 0 || two.Next[0][0] != 1 || !two.Accept[0] {
		t.Error("memory is shared")
	}
}

func TestCompile(t *testing.T) {
	if d, e := Compile(nil); e != api.ErrBad || d.Cuts != nil {
		t.Error(d, e)
	}
	for s, want := range map[string]api.Errno{"(a{16}){16}": api.ErrStates, "(a|b)*a(a|b){5}": api.ErrStates} {
		if d, e := Compile(parse(t, s)); e != want || d.Next != nil {
			t.Error(s, e)
		}
	}
	var wide strings.Builder
	for i := range 200 {
		wide.WriteRune(rune(0x400 + 2*i))
	}
	if d, e := Compile(parse(t, "["+wide.String()+"]")); e != api.ErrMany || d.Next != nil {
		t.Error(e)
	}
}

// P11.2
func TestApart(t *testing.T) {
	for _, c := range []struct {
		a, b string
		want []int
		is   bool
	}{{"a*", "a{0,2}", []int{97, 97, 97}, true}, {"a", "", nil, true}, {"(a|b)*", "(a*b*)*", nil, false}, {"[]", "[]", nil, false}, {"[b-d]", "[bd]", []int{99}, true}, {"a|b", "c|d", []int{97}, true}, {".", "[^a]", []int{97}, true}, {"ab|ba|zz", "zz", []int{97, 98}, true}} {
		for range 2 {
			w, is, e := Apart(compile(t, c.a), compile(t, c.b))
			if e != api.OK || is != c.is || !slices.Equal(w, c.want) {
				t.Error(c.a, c.b, w, is, e)
			}
			c.a, c.b = c.b, c.a
		}
	}
	d := compile(t, "a")
	if w, is, e := Apart(d, api.Dfa{}); w != nil || is || e != api.ErrBad {
		t.Error(w, is, e)
	}
	if w, is, e := Apart(api.Dfa{}, d); w != nil || is || e != api.ErrBad {
		t.Error(w, is, e)
	}
	// A cut at which nothing changes is a number of words, too; the first one is the least.
	odd := api.Dfa{Cuts: []int{0, 50, 97, 98}, Next: [][]int{{1, 1, 2, 1}, {1, 1, 1, 1}, {1, 1, 1, 1}}, Accept: []bool{false, false, true}}
	if w, is, e := Apart(odd, compile(t, "a|b")); !is || e != api.OK || !slices.Equal(w, []int{98}) {
		t.Error(w, is, e)
	}
}

// P11.4, V5: the same language, and the same automaton just if no word tells two apart.
func TestLanguage(t *testing.T) {
	some := []string{"(a|b)*abb", "(a?b){2}", "((a|)b?){0,2}", "(a{2})*|b{2,}", "(a(ba)*)?b", "()*", "[]", "a|b", "[ab]", "b|a", "a*", "a+|", "aa*", "a+", "(ab)*a", "a(ba)*", ".*", "[^]*"}
	for _, s := range some {
		p, d := parse(t, s), compile(t, s)
		a, _ := auto.Build(p)
		big, _ := subset.Build(a)
		if w, is, e := Apart(big, d); is || e != api.OK {
			t.Error(s, w)
		}
		if len(d.Next) > len(big.Next) || len(d.Cuts) > len(big.Cuts) {
			t.Error(s)
		}
		if again, e := Least(d); e != api.OK || !subset.Same(again, d) {
			t.Error(s)
		}
		for n := range 7 {
			for w := range 1 << n {
				var word []int
				for i := range n {
					word = append(word, 'a'+w>>i&1)
				}
				want, _ := tongue.In(p, word)
				if is, e := subset.Run(d, word); e != api.OK || is != want {
					t.Fatal(s, word, is)
				}
			}
		}
		for _, r := range some {
			other := compile(t, r)
			w, is, _ := Apart(d, other)
			if is == subset.Same(d, other) {
				t.Error(s, r, w)
			}
			if x, _ := subset.Run(d, w); is {
				if y, _ := subset.Run(other, w); x == y {
					t.Error(s, r, w)
				}
			}
		}
	}
}
