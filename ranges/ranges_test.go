package ranges

import (
	"slices"
	"testing"

	"provost/api"
)

func of(n ...int) []api.Range {
	var l []api.Range
	for i := 0; i < len(n); i += 2 {
		l = append(l, api.Range{From: n[i], To: n[i+1]})
	}
	return l
}

// spread is n ranges of one number each, from a first one on.
func spread(n, first int) []api.Range {
	var l []api.Range
	for i := range n {
		l = append(l, api.Range{From: first + 4*i, To: first + 4*i})
	}
	return l
}

const top = api.MaxPoint

// P6.1
func TestCheckAndHas(t *testing.T) {
	for _, l := range [][]api.Range{nil, of(0, top), of(1, 3, 5, 5), spread(256, 0)} {
		if Check(l) != api.OK {
			t.Error(l)
		}
	}
	for _, l := range [][]api.Range{of(1, 2, 3, 4), of(2, 1), of(-1, 0), of(0, top+1), of(5, 6, 1, 2), of(1, 5, 2, 9), spread(257, 0), of(1, 1<<62+1<<61, 5, 6)} {
		if Check(l) != api.ErrBad {
			t.Error(l)
		}
		if _, e := Not(l); e != api.ErrBad {
			t.Error(l, e)
		}
		if _, e := Or(nil, l); e != api.ErrBad {
			t.Error(l, e)
		}
		if _, e := And(l, nil); e != api.ErrBad {
			t.Error(l, e)
		}
		if c, e := Cuts([][]api.Range{nil, l}); e != api.ErrBad || c != nil {
			t.Error(l, e)
		}
	}
	if !Has(of(5, 3, -9, -7), -8) || Has(of(5, 3), 4) || Has(nil, 0) || !Has(of(1, 2, 4, 4), 4) {
		t.Error("has")
	}
	if !Same(nil, of()) || Same(of(1, 2), of(1, 3)) || Same(of(1, 2), nil) || !Same(of(7, 1), of(7, 1)) {
		t.Error("same")
	}
}

// P6.2
func TestSets(t *testing.T) {
	l := of(5, 7, 1, 2, 8, 9, 2, 3)
	n, e := Norm(l)
	if e != api.OK || !Same(n, of(1, 3, 5, 9)) || !Same(l, of(5, 7, 1, 2, 8, 9, 2, 3)) {
		t.Error(n, e)
	}
	if n, e := Norm(of(1, 9, 2, 3, 4, 4)); e != api.OK || !Same(n, of(1, 9)) {
		t.Error(n, e)
	}
	for _, l := range [][]api.Range{of(2, 1), of(-1, 3), of(0, top+1)} {
		if n, e := Norm(l); e != api.ErrBad || n != nil {
			t.Error(n, e)
		}
	}
	if _, e := Norm(append(spread(256, 0), api.Range{From: 2, To: 1})); e != api.ErrMany {
		t.Error(e)
	}
	for _, two := range [][2][]api.Range{{nil, of(0, top)}, {of(0, 3), of(4, top)}, {of(1, 3, 9, top), of(0, 0, 4, 8)}, {of(0, top-1), of(top, top)}} {
		if n, e := Not(two[0]); e != api.OK || !Same(n, two[1]) {
			t.Error(n, e)
		}
		if n, e := Not(two[1]); e != api.OK || !Same(n, two[0]) {
			t.Error(n, e)
		}
	}
	if n, e := Norm(spread(256, 1)); e != api.OK || len(n) != 256 {
		t.Error(e)
	}
	if _, e := Not(spread(256, 1)); e != api.ErrMany {
		t.Error(e)
	}
	if n, e := Not(spread(256, 0)); e != api.OK || len(n) != 256 {
		t.Error(e)
	}
	if n, e := Or(of(1, 3), of(4, 5)); e != api.OK || !Same(n, of(1, 5)) {
		t.Error(n, e)
	}
	if n, e := And(of(1, 5), of(3, 9)); e != api.OK || !Same(n, of(3, 5)) {
		t.Error(n, e)
	}
	if _, e := Or(spread(256, 0), spread(1, 2)); e != api.ErrMany {
		t.Error(e)
	}
	if n, e := Or(spread(256, 0), of(0, top)); e != api.OK || len(n) != 1 {
		t.Error(e)
	}
	wide, many := spread(256, 0), spread(256, 2)
	for i := range wide {
		wide[i].To += 2
		many[i].To += 2
	}
	if n, e := And(wide, many); e != api.ErrMany || n != nil {
		t.Error(len(n), e)
	}
}

// P6.5, by all sets of a few numbers.
func TestLaws(t *testing.T) {
	set := func(bits int) []api.Range {
		var l []api.Range
		for i := range 6 {
			if bits>>i&1 == 1 {
				l = append(l, api.Range{From: i, To: i})
			}
		}
		n, _ := Norm(l)
		return n
	}
	for a := range 64 {
		for b := range 64 {
			or, _ := Or(set(a), set(b))
			and, _ := And(set(a), set(b))
			if !Same(or, set(a|b)) || !Same(and, set(a&b)) || Check(or) != api.OK {
				t.Fatal(a, b, or, and)
			}
		}
		not, _ := Not(set(a))
		again, _ := Not(not)
		if !Same(again, set(a)) {
			t.Fatal(a)
		}
		for i := range 6 {
			if Has(set(a), i) != (a>>i&1 == 1) || Has(not, i) == Has(set(a), i) {
				t.Fatal(a, i)
			}
		}
	}
}

// P6.3, P6.4
func TestCuts(t *testing.T) {
	for _, c := range []struct {
		sets [][]api.Range
		want []int
	}{{nil, []int{0}}, {[][]api.Range{of(1, 3), of(3, 5)}, []int{0, 1, 3, 4, 6}}, {[][]api.Range{of(0, top)}, []int{0}}, {[][]api.Range{of(0, 4), of(9, top), of(5, 5)}, []int{0, 5, 6, 9}}} {
		if got, e := Cuts(c.sets); e != api.OK || !slices.Equal(got, c.want) {
			t.Error(got, e)
		}
	}
	many := make([][]api.Range, 257)
	many[0] = of(2, 1)
	if _, e := Cuts(many); e != api.ErrMany {
		t.Error(e)
	}
	if _, e := Cuts(many[1:]); e != api.OK {
		t.Error(e)
	}
	l := of(1, 2)
	n, _ := Norm(l)
	o, _ := Or(l, nil)
	n[0].To, o[0].To = 9, 9
	if l[0].To != 2 {
		t.Error("memory is shared")
	}
}
