package auto

import (
	"slices"
	"strings"
	"testing"

	"provost/api"
	"provost/pattern"
	"provost/tongue"
)

func build(t *testing.T, s string) api.Auto {
	t.Helper()
	p, e := pattern.Parse(s)
	if e != api.OK {
		t.Fatal(s, e)
	}
	a, e := Build(p)
	if e != api.OK || Check(a) != api.OK {
		t.Fatal(s, e)
	}
	return a
}

func by(to, c int) api.Edge { return api.Edge{To: to, Set: []api.Range{{From: c, To: c}}} }
func free(to int) api.Edge  { return api.Edge{To: to, Free: true} }

// P9.1: the examples, and each kind.
func TestBuild(t *testing.T) {
	type rows = [][]api.Edge
	for s, want := range map[string]api.Auto{
		"a": {Edges: rows{{by(1, 'a')}, {}}, Accept: 1}, "a*": {Edges: rows{{free(1)}, {by(2, 'a')}, {free(1)}}, Accept: 1},
		"a|b": {Edges: rows{{by(1, 'a'), by(2, 'b')}, {free(3)}, {free(3)}, {}}, Accept: 3}, "": {Edges: rows{{free(1)}, {}}, Accept: 1},
		"ab": {Edges: rows{{by(1, 'a')}, {by(2, 'b')}, {}}, Accept: 2}, "a?": {Edges: rows{{by(1, 'a'), free(2)}, {free(2)}, {}}, Accept: 2},
		"a{1}": {Edges: rows{{by(1, 'a')}, {free(2)}, {}}, Accept: 2}, "a{0}": {Edges: rows{{free(1)}, {}}, Accept: 1},
		"a+": {Edges: rows{{by(1, 'a')}, {free(2)}, {by(3, 'a')}, {free(2)}}, Accept: 2}, "a{1,3}": {Edges: rows{{by(1, 'a')}, {by(2, 'a'), free(4)}, {by(3, 'a'), free(4)}, {free(4)}, {}}, Accept: 4},
		"(a|)b": {Edges: rows{{by(1, 'a'), free(2)}, {free(3)}, {free(3)}, {by(4, 'b')}, {}}, Accept: 4},
	} {
		if got := build(t, s); !Same(got, want) {
			t.Error(s, got)
		}
	}
	p, _ := pattern.Parse("(a{16}){16}")
	if a, e := Build(p); e != api.ErrStates || a.Edges != nil || a.Accept != 0 {
		t.Error(a, e)
	}
	p, _ = pattern.Parse(strings.Repeat("(", 15) + "a" + strings.Repeat("){16}", 15))
	if _, e := Build(p); e != api.ErrStates {
		t.Error(e)
	}
	if _, e := Build(nil); e != api.ErrBad {
		t.Error(e)
	}
	// 1 + 15 * 17 = 256 states: as many as there may be.
	edge := strings.Repeat("a{16}", 15)
	if a := build(t, edge); len(a.Edges) != api.MaxAuto {
		t.Error(len(a.Edges))
	}
	p, _ = pattern.Parse(edge + "a")
	if _, e := Build(p); e != api.ErrStates {
		t.Error(e)
	}
	p = []api.Rx{{Kind: api.RxSet, Set: []api.Range{{From: 1, To: 2}}}}
	a, _ := Build(p)
	a.Edges[0][0].Set[0].To = 9
	if p[0].Set[0].To != 2 {
		t.Error("memory is shared")
	}
}

// counted is how many states there are counted for a pattern: just those that are made.
func TestCount(t *testing.T) {
	for _, s := range []string{"", "a", "ab|c*", "(a|b){2,4}c+", "((a?){3}){2}", "()*|[]{0}", "(a{0,3}b{2,}){1,2}"} {
		p, _ := pattern.Parse(s)
		if a := build(t, s); count(p) != len(a.Edges) {
			t.Error(s, count(p), len(a.Edges))
		}
	}
}

// P9.1: which automata may be.
func TestCheck(t *testing.T) {
	many := func(n int) [][]api.Edge { return make([][]api.Edge, n) }
	edges := func(n int) [][]api.Edge { return [][]api.Edge{make([]api.Edge, n)} }
	for _, a := range []api.Auto{{Edges: many(1)}, {Edges: many(256), Accept: 255}, {Edges: edges(1024)}} {
		if Check(a) != api.OK {
			t.Error(len(a.Edges))
		}
	}
	for i, a := range []api.Auto{{}, {Edges: many(257)}, {Edges: many(1), Accept: 1}, {Edges: many(1), Accept: -1}, {Edges: edges(1025)}, {Edges: [][]api.Edge{{by(1, 'a')}}}, {Edges: [][]api.Edge{{free(-1)}}}, {Edges: [][]api.Edge{{{Free: true, Set: []api.Range{{}}}}}}, {Edges: [][]api.Edge{{by(0, -1)}}}} {
		if Check(a) != api.ErrBad {
			t.Error(i)
		}
		if l, e := Reach(a, []int{-1}); e != api.ErrBad || l != nil {
			t.Error(i, e)
		}
		if l, e := Step(a, []int{-1}, 0); e != api.ErrBad || l != nil {
			t.Error(i, e)
		}
		if is, e := Run(a, make([]int, 2000)); e != api.ErrBad || is {
			t.Error(i, e)
		}
	}
	a := build(t, "a")
	if !Same(a, build(t, "a")) || Same(a, build(t, "b")) || Same(a, api.Auto{Edges: a.Edges}) || Same(a, api.Auto{Edges: a.Edges[:1], Accept: 1}) || !Same(api.Auto{}, api.Auto{Edges: [][]api.Edge{}}) {
		t.Error("same")
	}
}

// P9.2
func TestReachAndStep(t *testing.T) {
	a := build(t, "(a*|b)c")
	if l, e := Reach(a, []int{0}); e != api.OK || !slices.Equal(l, []int{0, 1, 4}) {
		t.Error(l, e)
	}
	if l, e := Reach(a, []int{2, 0, 2}); e != api.OK || !slices.Equal(l, []int{0, 1, 2, 4}) {
		t.Error(l, e)
	}
	if l, e := Reach(a, nil); e != api.OK || len(l) != 0 {
		t.Error(l, e)
	}
	if l, e := Step(a, []int{1, 0, 1}, 'a'); e != api.OK || !slices.Equal(l, []int{2}) {
		t.Error(l, e)
	}
	if l, e := Step(a, []int{0}, -5); e != api.OK || len(l) != 0 {
		t.Error(l, e)
	}
	for _, s := range []int{-1, len(a.Edges), 1 << 40} {
		if l, e := Reach(a, []int{0, s}); e != api.ErrArg || l != nil {
			t.Error(l, e)
		}
		if l, e := Step(a, []int{s}, 0); e != api.ErrArg || l != nil {
			t.Error(l, e)
		}
	}
	if is, e := Run(a, make([]int, api.MaxWord+1)); e != api.ErrMany || is {
		t.Error(e)
	}
	if is, e := Run(build(t, ".*"), make([]int, api.MaxWord)); !is || e != api.OK {
		t.Error(e)
	}
}

// P9.5: an automaton accepts just the pattern's language.
func TestLanguage(t *testing.T) {
	for _, s := range []string{"(a|b)*abb", "(a?b){2}", "(a|bb){1,2}a*", "((a|)b?){0,2}", "(a{2})*|b{2,}", "(a(ba)*)?b", "()*", "[]", "a{0}|b{1}"} {
		p, _ := pattern.Parse(s)
		a := build(t, s)
		for n := range 7 {
			for w := range 1 << n {
				var word []int
				for i := range n {
					word = append(word, 'a'+w>>i&1)
				}
				want, _ := tongue.In(p, word)
				if is, e := Run(a, word); e != api.OK || is != want {
					t.Fatal(s, word, is)
				}
			}
		}
	}
}
