package subset

import (
	"slices"
	"strings"
	"testing"

	"provost/api"
	"provost/auto"
	"provost/pattern"
)

func thompson(t *testing.T, s string) api.Auto {
	t.Helper()
	p, e := pattern.Parse(s)
	if e != api.OK {
		t.Fatal(s, e)
	}
	a, e := auto.Build(p)
	if e != api.OK {
		t.Fatal(s, e)
	}
	return a
}

func build(t *testing.T, s string) api.Dfa {
	t.Helper()
	d, e := Build(thompson(t, s))
	if e != api.OK || Check(d) != api.OK {
		t.Fatal(s, e)
	}
	return d
}

// P10.1: the examples.
func TestBuild(t *testing.T) {
	if d := build(t, "a"); !Same(d, api.Dfa{Cuts: []int{0, 97, 98}, Next: [][]int{{1, 2, 1}, {1, 1, 1}, {1, 1, 1}}, Accept: []bool{false, false, true}}) {
		t.Error(d)
	}
	if d := build(t, "[]"); !Same(d, api.Dfa{Cuts: []int{0}, Next: [][]int{{1}, {1}}, Accept: []bool{false, false}}) {
		t.Error(d)
	}
	if d := build(t, ".*"); !Same(d, api.Dfa{Cuts: []int{0}, Next: [][]int{{1}, {1}}, Accept: []bool{true, true}}) {
		t.Error(d)
	}
	if d := build(t, "b|a"); !Same(d, api.Dfa{Cuts: []int{0, 97, 98, 99}, Next: [][]int{{1, 2, 3, 1}, {1, 1, 1, 1}, {1, 1, 1, 1}, {1, 1, 1, 1}}, Accept: []bool{false, false, true, true}}) {
		t.Error(d)
	}
}

func TestLimits(t *testing.T) {
	if d, e := Build(api.Auto{}); e != api.ErrBad || d.Cuts != nil {
		t.Error(d, e)
	}
	// (a|b)*a(a|b){5} has 64 sets and more: 2^6 of the last six letters, and the one of other letters.
	if d, e := Build(thompson(t, "(a|b)*a(a|b){5}")); e != api.ErrStates || d.Cuts != nil || d.Next != nil || d.Accept != nil {
		t.Error(d, e)
	}
	if d := build(t, "(a|b)*a(a|b){4}"); len(d.Next) != 34 {
		t.Error(len(d.Next))
	}
	if d := build(t, strings.Repeat("a", 62)); len(d.Next) != 64 {
		t.Error(len(d.Next))
	}
	if _, e := Build(thompson(t, strings.Repeat("a", 63))); e != api.ErrStates {
		t.Error(e)
	}
	edges := func(n int) api.Auto {
		a := api.Auto{Edges: [][]api.Edge{nil}}
		for range n {
			a.Edges[0] = append(a.Edges[0], api.Edge{Set: []api.Range{{From: 1, To: 2}}})
		}
		return a
	}
	if _, e := Build(edges(256)); e != api.OK {
		t.Error(e)
	}
	if _, e := Build(edges(257)); e != api.ErrMany {
		t.Error(e)
	}
	wide := func(n int) api.Auto {
		var l []api.Range
		for i := range n {
			l = append(l, api.Range{From: 2 * i, To: 2 * i})
		}
		return api.Auto{Edges: [][]api.Edge{{{Set: l}}}}
	}
	if d, e := Build(wide(128)); e != api.OK || len(d.Cuts) != 256 {
		t.Error(e)
	}
	odd := wide(128)
	odd.Edges[0][0].Set[0].From, odd.Edges[0][0].Set[0].To = 1, 1
	for i := range odd.Edges[0][0].Set {
		odd.Edges[0][0].Set[i] = api.Range{From: 2*i + 1, To: 2*i + 1}
	}
	if d, e := Build(odd); e != api.ErrMany || d.Cuts != nil {
		t.Error(e)
	}
	if d, e := Build(wide(129)); e != api.ErrMany || d.Cuts != nil {
		t.Error(e)
	}
}

func TestCheck(t *testing.T) {
	row := func(n int) []int { return make([]int, n) }
	good := api.Dfa{Cuts: []int{0, 5}, Next: [][]int{row(2)}, Accept: []bool{true}}
	if Check(good) != api.OK || Check(api.Dfa{Cuts: []int{0, api.MaxPoint}, Next: [][]int{row(2)}, Accept: row2(1)}) != api.OK {
		t.Error("good")
	}
	many := api.Dfa{Cuts: row(257), Next: [][]int{row(257)}, Accept: row2(1)}
	for i := range many.Cuts {
		many.Cuts[i] = i
	}
	full := api.Dfa{Cuts: many.Cuts[:256], Next: [][]int{row(256)}, Accept: row2(1)}
	if Check(full) != api.OK {
		t.Error("full")
	}
	tall := api.Dfa{Cuts: row(1), Next: make([][]int, 65), Accept: row2(65)}
	for i := range tall.Next {
		tall.Next[i] = row(1)
	}
	for i, d := range []api.Dfa{{}, many, tall, {Cuts: []int{1}, Next: [][]int{row(1)}, Accept: row2(1)}, {Cuts: []int{0, 0}, Next: [][]int{row(2)}, Accept: row2(1)}, {Cuts: []int{0, api.MaxPoint + 1}, Next: [][]int{row(2)}, Accept: row2(1)}, {Cuts: row(1)}, {Cuts: row(1), Next: [][]int{row(1)}}, {Cuts: row(1), Next: [][]int{row(1)}, Accept: row2(2)}, {Cuts: row(1), Next: [][]int{row(2)}, Accept: row2(1)}, {Cuts: row(1), Next: [][]int{{1}}, Accept: row2(1)}, {Cuts: row(1), Next: [][]int{{-1}}, Accept: row2(1)}, {Next: [][]int{{}}, Accept: row2(1)}} {
		if Check(d) != api.ErrBad {
			t.Error(i)
		}
		if c, e := Class(d, -1); e != api.ErrBad || c != 0 {
			t.Error(i, e)
		}
		if s, e := Walk(d, -1, row(2000)); e != api.ErrBad || s != 0 {
			t.Error(i, e)
		}
		if is, e := Run(d, row(2000)); e != api.ErrBad || is {
			t.Error(i, e)
		}
	}
	if Same(good, many) || !Same(api.Dfa{}, api.Dfa{Cuts: []int{}, Next: [][]int{}, Accept: []bool{}}) {
		t.Error("same")
	}
	other := api.Dfa{Cuts: []int{0, 5}, Next: [][]int{row(2)}, Accept: []bool{false}}
	if Same(good, other) || !Same(good, good) {
		t.Error("same")
	}
}

func row2(n int) []bool { return make([]bool, n) }

// P10.2
func TestWalk(t *testing.T) {
	d := build(t, "a")
	for n, want := range map[int]int{0: 0, 96: 0, 97: 1, 98: 2, api.MaxPoint: 2} {
		if c, e := Class(d, n); c != want || e != api.OK {
			t.Error(n, c, e)
		}
	}
	for _, n := range []int{-1, api.MaxPoint + 1} {
		if c, e := Class(d, n); c != 0 || e != api.ErrArg {
			t.Error(n, c, e)
		}
		if s, e := Walk(d, 0, []int{97, n}); s != 0 || e != api.ErrArg {
			t.Error(s, e)
		}
		if is, e := Run(d, []int{n}); is || e != api.ErrArg {
			t.Error(is, e)
		}
	}
	if s, e := Walk(d, 0, []int{97}); s != 2 || e != api.OK {
		t.Error(s, e)
	}
	for _, s := range []int{-1, 3} {
		if to, e := Walk(d, s, nil); e != api.ErrArg || to != 0 {
			t.Error(e)
		}
	}
	if s, e := Walk(d, -1, make([]int, api.MaxWord+1)); e != api.ErrMany || s != 0 {
		t.Error(e)
	}
	if s, e := Walk(d, 0, make([]int, api.MaxWord)); s != 1 || e != api.OK {
		t.Error(s, e)
	}
}

// P10.3, P10.4
func TestSameLanguage(t *testing.T) {
	for _, s := range []string{"(a|b)*abb", "(a?b){2}", "((a|)b?){0,2}", "(a{2})*|b{2,}", "(a(ba)*)?b", "()*"} {
		a := thompson(t, s)
		was := thompson(t, s)
		d := build(t, s)
		if !auto.Same(a, was) {
			t.Error("changed")
		}
		for n := range 7 {
			for w := range 1 << n {
				var word []int
				for i := range n {
					word = append(word, 'a'+w>>i&1)
				}
				want, _ := auto.Run(a, word)
				if is, e := Run(d, word); e != api.OK || is != want {
					t.Fatal(s, word, is)
				}
				half, _ := Walk(d, 0, word[:n/2])
				end, _ := Walk(d, half, word[n/2:])
				if one, _ := Walk(d, 0, word); one != end {
					t.Fatal(s, word)
				}
			}
		}
	}
	d := build(t, "a")
	if !slices.Equal(d.Cuts, []int{0, 97, 98}) {
		t.Error(d.Cuts)
	}
}
