package cell

import (
	"strings"
	"testing"

	"provost/api"
)

func null() api.Cell                      { return api.Cell{} }
func number(n int64) api.Cell             { return api.Cell{Kind: api.Int, Int: n} }
func word(s string) api.Cell              { return api.Cell{Kind: api.Text, Text: s} }
func list(n int) api.Cell                 { return api.Cell{Kind: api.List, Many: n} }
func object(n int) api.Cell               { return api.Cell{Kind: api.Object, Many: n} }
func as(name string, c api.Cell) api.Cell { c.Name = name; return c }

// sample is the chapter's object of a: 1, b: a list of null and "x".
func sample() []api.Cell {
	return []api.Cell{object(2), as("a", number(1)), as("b", list(2)), null(), word("x")}
}

func nested(n int) []api.Cell {
	var v []api.Cell
	for range n {
		v = append(v, list(1))
	}
	return append(v, null())
}

// P3.1: what is a value.
func TestCheck(t *testing.T) {
	long := strings.Repeat("a", api.MaxBytes)
	full := append([]api.Cell{list(api.MaxCells - 1)}, make([]api.Cell, api.MaxCells-1)...)
	good := [][]api.Cell{sample(), {null()}, {{Kind: api.Bool, Int: 1}}, {number(-1 << 63)}, {word("")}, {word(long)}, {list(0)}, {object(0)}, full, nested(15), append(nested(15)[:15], list(0)),
		{{Kind: api.Enum, Text: "_a9"}}, {{Kind: api.Var, Text: "true"}}, {object(1), as(long, null())}, {object(1), as("\u20ac", null())}}
	for i, v := range good {
		if e := Check(v); e != api.OK {
			t.Error(i, e)
		}
	}
	bad := [][]api.Cell{nil, {list(1)}, {null(), null()}, {as("a", null())}, {list(1), as("a", null())}, {object(1), null()}, {object(2), as("a", null()), as("a", null())},
		{{Kind: 8}}, {{Kind: 255}}, {{Kind: api.Bool, Int: 2}}, {{Kind: api.Bool, Int: -1}}, {{Kind: api.Null, Int: 1}}, {{Text: "a"}}, {{Many: 1}, null()}, {{Kind: api.Int, Text: "1"}}, {{Kind: api.Int, Many: 1}, null()}, {{Kind: api.Text, Int: 1}}, {{Kind: api.Text, Many: -1}},
		{word("\xff")}, {word(long + "a")}, {{Kind: api.Enum}}, {{Kind: api.Enum, Text: "9"}}, {{Kind: api.Var, Text: "a-b"}}, {{Kind: api.Enum, Text: "\u00e9"}}, {{Kind: api.List, Many: -1}}, {{Kind: api.List, Many: 1 << 62}, null()}, {{Kind: api.List, Int: 1}}, {{Kind: api.Object, Text: "a"}},
		append(full[:1:1], make([]api.Cell, api.MaxCells)...), nested(17), nested(500), {object(1), as("\xff", null())}, {object(1), as(long+"a", null())}, {list(0), null()}}
	bad[30][0].Many++
	for i, v := range bad {
		if e := Check(v); e != api.ErrBad {
			t.Error(i, e)
		}
		if Plain(v) {
			t.Error(i, "plain")
		}
		if _, e := End(v, 0); e != api.ErrBad {
			t.Error(i, e)
		}
		if _, e := Kids(v, -1); e != api.ErrBad {
			t.Error(i, e)
		}
		if _, e := Sub(v, 0); e != api.ErrBad {
			t.Error(i, e)
		}
		if at, is := Member(v, 0, "a"); at != 0 || is {
			t.Error(i, at, is)
		}
		if _, e := Items([][]api.Cell{{null()}, v}); e != api.ErrBad {
			t.Error(i, e)
		}
	}
	if e := Check(nested(16)); e != api.OK {
		t.Error(e)
	}
	if !Plain(sample()) || Plain([]api.Cell{{Kind: api.Enum, Text: "A"}}) || Plain([]api.Cell{list(1), {Kind: api.Var, Text: "A"}}) {
		t.Error("plain")
	}
}

// P3.2: places.
func TestPlaces(t *testing.T) {
	v := sample()
	for at, want := range []int{5, 2, 5, 4, 5} {
		if n, e := End(v, at); n != want || e != api.OK {
			t.Error(at, n, e)
		}
	}
	for at, want := range map[int][]int{0: {1, 2}, 2: {3, 4}, 1: nil} {
		got, e := Kids(v, at)
		if e != api.OK || len(got) != len(want) {
			t.Error(at, got, e)
		}
		for i := range want {
			if got[i] != want[i] {
				t.Error(at, got)
			}
		}
	}
	if at, is := Member(v, 0, "b"); at != 2 || !is {
		t.Error(at, is)
	}
	for _, at := range []int{0, 1, 2, -1, 9} {
		if at, is := Member(v, at, "c"); at != 0 || is {
			t.Error(at, is)
		}
	}
	for _, at := range []int{-1, 5, 1 << 40} {
		if _, e := End(v, at); e != api.ErrArg {
			t.Error(e)
		}
		if _, e := Kids(v, at); e != api.ErrArg {
			t.Error(e)
		}
		if _, e := Sub(v, at); e != api.ErrArg {
			t.Error(e)
		}
	}
	sub, e := Sub(v, 2)
	if e != api.OK || !Same(sub, []api.Cell{list(2), null(), word("x")}) {
		t.Error(sub, e)
	}
}

// P3.3 to P3.5: what is put together is taken apart again, in new memory.
func TestTogether(t *testing.T) {
	v := sample()
	var subs [][]api.Cell
	var names []string
	kids, _ := Kids(v, 0)
	for _, k := range kids {
		s, _ := Sub(v, k)
		subs = append(subs, s)
		names = append(names, v[k].Name)
	}
	got, e := Members(names, subs)
	if e != api.OK || !Same(got, v) {
		t.Error(got, e)
	}
	got[3].Text = "spoilt"
	if !Same(v, sample()) || subs[1][1].Text != "" {
		t.Error("memory is shared")
	}
	l, e := Items(subs)
	if e != api.OK || l[0] != list(2) || len(l) != 5 {
		t.Error(l, e)
	}
	if _, e := Members([]string{"a"}, subs); e != api.ErrArg {
		t.Error(e)
	}
	for _, names := range [][]string{{"a", "a"}, {"a", ""}, {"a", "\xff"}} {
		if got, e := Members(names, subs); e != api.ErrBad || got != nil {
			t.Error(got, e)
		}
	}
	many := make([][]api.Cell, api.MaxCells)
	for i := range many {
		many[i] = []api.Cell{null()}
	}
	if _, e := Items(many); e != api.ErrBad {
		t.Error(e)
	}
	if l, e := Items(many[1:]); e != api.OK || len(l) != api.MaxCells {
		t.Error(e)
	}
	if _, e := Items(append(many, nil)); e != api.ErrMany {
		t.Error(e)
	}
	if _, e := Items([][]api.Cell{nested(16)}); e != api.ErrBad {
		t.Error(e)
	}
	if l, e := Items(nil); e != api.OK || !Same(l, []api.Cell{list(0)}) {
		t.Error(l, e)
	}
	if Same(v, v[1:]) || !Same(nil, []api.Cell{}) {
		t.Error("same")
	}
	w := Twin(v)
	w[1].Name = "z"
	if v[1].Name != "a" || len(Twin(nil)) != 0 {
		t.Error("twin")
	}
}

// Which bytes a name may have.
func TestNames(t *testing.T) {
	const letters = "_abcdefghijklmnopqrstuvwxyzABCDEFGHIJKLMNOPQRSTUVWXYZ"
	for b := range 256 {
		s := string([]byte{byte(b)})
		first, later := strings.Contains(letters, s), strings.Contains(letters+"0123456789", s)
		for text, want := range map[string]bool{s: first, "a" + s: later, s + "a": first} {
			for _, kind := range []uint8{api.Enum, api.Var} {
				if e := Check([]api.Cell{{Kind: kind, Text: text}}); (e == api.OK) != want {
					t.Errorf("%q %v", text, e)
				}
			}
		}
	}
	if e := Check([]api.Cell{{Kind: api.Bool}}); e != api.OK {
		t.Error(e)
	}
	if end, e := End(nil, 0); end != 0 || e != api.ErrBad {
		t.Error(end, e)
	}
	if Same(sample(), nested(4)) {
		t.Error("same")
	}
}
