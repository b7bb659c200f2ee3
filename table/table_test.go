package table

import (
	"strconv"
	"testing"

	"provost/api"
)

// rec is a record of an id and an n, which is a Null, if it is below 0.
func rec(id string, n int64) api.Record {
	c := api.Cell{Name: "n", Kind: api.Int, Int: n}
	if n < 0 {
		c = api.Cell{Name: "n"}
	}
	return api.Record{Id: id, Data: []api.Cell{{Kind: api.Object, Many: 2}, {Name: "id", Kind: api.Text, Text: id}, c}}
}

func table(rows ...api.Record) api.Table {
	return api.Table{Name: "T", Most: 2, Uniques: []string{"n"}, Rows: rows}
}

// P27.3: the examples, and what goes ahead.
func TestTurn(t *testing.T) {
	a := table(rec("a", 1))
	two, e := Put(a, rec("b", 2))
	if e != api.OK || !Same(two, table(rec("a", 1), rec("b", 2))) || Check(two) != api.OK {
		t.Error(two, e)
	}
	if got, e := Put(a, rec("A", 2)); e != api.OK || !Same(got, table(rec("A", 2), rec("a", 1))) {
		t.Error(got, e)
	}
	if got, e := Put(two, rec("c", 3)); e != api.ErrTable || !Same(got, api.Table{}) {
		t.Error(got, e)
	}
	for _, r := range []api.Record{rec("a", 5), rec("c", 1), rec("c", 2), rec("b", -1)} {
		if got, e := Put(two, r); e != api.ErrSame || !Same(got, api.Table{}) {
			t.Error(got, e)
		}
	}
	if got, e := Put(a, rec("b", 1)); e != api.ErrSame || got.Rows != nil {
		t.Error(got, e)
	}
	none, e := Put(table(rec("a", -1)), rec("b", -1))
	if e != api.OK || Check(none) != api.OK {
		t.Error(none, e)
	}
	if got, e := Set(a, rec("a", 3)); e != api.OK || !Same(got, table(rec("a", 3))) {
		t.Error(got, e)
	}
	if got, e := Set(two, rec("a", 1)); e != api.OK || !Same(got, two) {
		t.Error(got, e)
	}
	if got, e := Set(two, rec("a", 2)); e != api.ErrSame || got.Rows != nil {
		t.Error(got, e)
	}
	if got, e := Set(a, rec("b", 1)); e != api.ErrRow || got.Rows != nil {
		t.Error(got, e)
	}
	if got, e := Drop(a, "b"); e != api.ErrRow || got.Most != 0 {
		t.Error(got, e)
	}
	if got, e := Drop(two, "b"); e != api.OK || !Same(got, a) {
		t.Error(got, e)
	}
	if got, is := Get(two, "b"); !is || got.Id != "b" || got.Data[2].Int != 2 {
		t.Error(got, is)
	}
	if got, is := Get(two, "c"); is || got.Id != "" || got.Data != nil {
		t.Error(got, is)
	}
}

// P27.1: what may be.
func TestCheck(t *testing.T) {
	many := api.Table{Most: api.MaxRows}
	for i := range api.MaxRows {
		many.Rows = append(many.Rows, rec(strconv.Itoa(1000+i), 1))
	}
	deep := rec("a", 1)
	deep.Data = append(deep.Data, api.Cell{Name: "l", Kind: api.List, Many: 1}, api.Cell{Kind: api.Enum, Text: "E"})
	deep.Data[0].Many = 3
	for i, x := range []api.Table{table(), table(rec("a", 1), rec("b", 2)), table(rec("a", -1), rec("b", -1)), many, table(deep), {Most: 1, Rows: []api.Record{{Data: []api.Cell{{Kind: api.Object, Many: 1}, {Name: "id", Kind: api.Text}}}}}} {
		if Check(x) != api.OK {
			t.Error(i)
		}
	}
	bad := func(turn func(r *api.Record)) api.Table {
		r := rec("a", 1)
		turn(&r)
		return table(r)
	}
	full := many
	full.Rows = append(full.Rows, rec("2000", 1))
	for i, x := range []api.Table{{}, {Most: 65}, {Most: -1}, full, table(rec("a", 1), rec("b", 2), rec("c", 3)), table(rec("b", 1), rec("a", 2)), table(rec("a", 1), rec("a", 2)), table(rec("a", 1), rec("b", 1)), {Most: 1, Uniques: []string{"x", "y", "x"}},
		bad(func(r *api.Record) { r.Id = "b" }), bad(func(r *api.Record) { r.Data = nil }), bad(func(r *api.Record) { r.Data = r.Data[1:2] }), bad(func(r *api.Record) { r.Data[1].Name = "x" }), bad(func(r *api.Record) { r.Data[1] = api.Cell{Name: "id", Kind: api.Enum, Text: "a"} }), bad(func(r *api.Record) { r.Data[2] = api.Cell{Name: "n", Kind: api.Var, Text: "a"} }), bad(func(r *api.Record) { r.Data[0].Many = 3 }), bad(func(r *api.Record) { r.Data[0].Kind = api.List }), bad(func(r *api.Record) { r.Data = []api.Cell{{Kind: api.Text, Text: "a"}} })} {
		if Check(x) != api.ErrBad {
			t.Error(i)
		}
		if got, is := Get(x, "a"); is || got.Data != nil {
			t.Error(i, got)
		}
		if got, e := Put(x, rec("z", 9)); e != api.ErrBad || got.Rows != nil {
			t.Error(i, e)
		}
		if got, e := Set(x, rec("z", 9)); e != api.ErrBad || got.Rows != nil {
			t.Error(i, e)
		}
		if got, e := Drop(x, "z"); e != api.ErrBad || got.Rows != nil {
			t.Error(i, e)
		}
		if !Same(Twin(x), x) {
			t.Error(i)
		}
		for _, r := range x.Rows {
			if recordMayBe(r) {
				continue
			}
			if _, e := Put(table(), r); e != api.ErrBad {
				t.Error(i, e)
			}
			if _, e := Set(table(), r); e != api.ErrBad {
				t.Error(i, e)
			}
		}
	}
	// Lists are the same just if all their items are.
	list := func(id string, n int64) api.Record {
		r := rec(id, 1)
		r.Data[2] = api.Cell{Name: "n", Kind: api.List, Many: 1}
		r.Data = append(r.Data, api.Cell{Kind: api.Int, Int: n})
		return r
	}
	if Check(table(list("a", 1), list("b", 1))) != api.ErrBad || Check(table(list("a", 1), list("b", 2))) != api.OK || Check(table(list("a", 1), rec("b", 1))) != api.OK {
		t.Error("lists")
	}
}

// P27.4, P27.5: new memory, and what was put is got.
func TestMemory(t *testing.T) {
	a := table(rec("b", 1))
	r := rec("a", 2)
	got, _ := Put(a, r)
	got.Rows[0].Data[2].Int, got.Rows[1].Data[2].Int, got.Uniques[0] = 7, 7, "z"
	if !Same(a, table(rec("b", 1))) || r.Data[2].Int != 2 {
		t.Error("memory is shared")
	}
	x, _ := Get(a, "b")
	x.Data[2].Int = 9
	y := Twin(a)
	y.Rows[0].Data[2].Int, y.Uniques[0] = 9, "z"
	s, _ := Set(a, rec("b", 3))
	s.Rows[0].Id = "q"
	d, _ := Drop(a, "b")
	d.Uniques[0] = "z"
	if !Same(a, table(rec("b", 1))) {
		t.Error("memory is shared")
	}
	if Same(a, table()) || Same(a, api.Table{Name: "T", Most: 2, Rows: a.Rows}) || Same(a, table(rec("b", 2))) || !Same(api.Table{Rows: []api.Record{}}, api.Table{}) {
		t.Error("same")
	}
	big := api.Table{Most: api.MaxRows}
	for i := range api.MaxRows {
		id := strconv.Itoa((i*37 + 11) % api.MaxRows)
		next, e := Put(big, rec(id, 1))
		if e != api.OK || Check(next) != api.OK {
			t.Fatal(id, e)
		}
		if got, is := Get(next, id); !is || got.Id != id {
			t.Error(id)
		}
		if back, e := Drop(next, id); e != api.OK || !Same(back, big) {
			t.Error(id, e)
		}
		big = next
	}
}
