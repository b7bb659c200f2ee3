package undo

import (
	"strconv"
	"testing"

	"provost/api"
	"provost/schema"
	"provost/sdl"
)

func rec(id string, n int64) api.Record {
	return api.Record{Id: id, Data: []api.Cell{{Kind: api.Object, Many: 2}, {Name: "id", Kind: api.Text, Text: id}, {Name: "n", Kind: api.Int, Int: n}}}
}

func store(rows ...api.Record) api.Store {
	return api.Store{Tables: []api.Table{{Name: "T", Most: 2, Uniques: []string{"n"}, Rows: rows}}}
}

// P28.1: a schema's empty store.
func TestNew(t *testing.T) {
	l, _, _, _ := sdl.Parse(`type U @table(most: 64) { id: ID! } enum E { A } type Query { t(id: ID!): T @get(of: "T") } input I { a: Int } type T @table(unique: ["n", "id"], most: 2) { id: ID! n: Int } type Mutation { d(id: ID!): T @delete(of: "T") }`)
	s, _, e := schema.Build(l)
	if e != api.OK {
		t.Fatal(e)
	}
	was, _, _ := schema.Build(l)
	st, e := New(s)
	if !schema.Same(s, was) {
		t.Error("changed")
	}
	if e != api.OK || !Same(st, api.Store{Tables: []api.Table{{Name: "U", Most: 64}, {Name: "T", Most: 2, Uniques: []string{"n", "id"}}}}) || Check(st) != api.OK {
		t.Error(st, e)
	}
	if st, e := New(api.Schema{}); e != api.ErrBad || st.Tables != nil {
		t.Error(st, e)
	}
	for name, want := range map[string]int{"U": 0, "T": 1} {
		if at, is := Find(st, name); at != want || !is {
			t.Error(name, at, is)
		}
	}
	if at, is := Find(st, "X"); at != 0 || is {
		t.Error(at, is)
	}
	if at, is := Find(api.Store{Tables: []api.Table{{Name: "x"}, {Name: "y"}, {Name: "y"}}}, "y"); at != 1 || !is {
		t.Error(at, is)
	}
}

// P28.2, P28.3: the examples.
func TestBack(t *testing.T) {
	a := store(rec("a", 1))
	b, e := Put(a, 0, rec("b", 2))
	if e != api.OK || len(b.Log) != 1 || b.Log[0].Has || b.Log[0].Id != "b" || b.Log[0].Was.Data != nil {
		t.Fatal(b, e)
	}
	c, e := Drop(b, 0, "a")
	if e != api.OK || len(c.Log) != 2 || !c.Log[1].Has || c.Log[1].Was.Id != "a" || !Alike(c, store(rec("b", 2))) {
		t.Fatal(c, e)
	}
	if got, e := Back(c, 0); e != api.OK || !Same(got, a) {
		t.Error(got, e)
	}
	if got, e := Back(c, 1); e != api.OK || !Same(got, b) {
		t.Error(got, e)
	}
	if got, e := Back(c, 2); e != api.OK || !Same(got, c) {
		t.Error(got, e)
	}
	for _, mark := range []int{-1, 3} {
		if got, e := Back(c, mark); e != api.ErrArg || got.Tables != nil {
			t.Error(got, e)
		}
	}
	for _, at := range []int{-1, 1, 1 << 40} {
		if got, e := Put(a, at, api.Record{}); e != api.ErrArg || got.Tables != nil {
			t.Error(got, e)
		}
		if _, e := Set(a, at, rec("a", 1)); e != api.ErrArg {
			t.Error(e)
		}
		if _, e := Drop(a, at, "a"); e != api.ErrArg {
			t.Error(e)
		}
	}
	d, e := Set(c, 0, rec("b", 7))
	if e != api.OK || !Alike(d, store(rec("b", 7))) || d.Log[2].Was.Data[2].Int != 2 {
		t.Error(d, e)
	}
	f, e := Forget(d)
	if e != api.OK || len(f.Log) != 0 || !Alike(f, d) || Same(f, d) {
		t.Error(f, e)
	}
	// P28.5: marks lie in each other.
	one, _ := Back(d, 1)
	zero, _ := Back(one, 0)
	if direct, _ := Back(d, 0); !Same(direct, zero) || !Same(zero, a) {
		t.Error(direct, zero)
	}
	for want, ask := range map[api.Errno]func() (api.Store, api.Errno){
		api.ErrSame: func() (api.Store, api.Errno) { return Put(b, 0, rec("c", 1)) }, api.ErrTable: func() (api.Store, api.Errno) { return Put(b, 0, rec("c", 3)) }, api.ErrRow: func() (api.Store, api.Errno) { return Set(b, 0, rec("c", 3)) }, api.ErrBad: func() (api.Store, api.Errno) { return Put(b, 0, api.Record{}) },
	} {
		if got, e := ask(); e != want || got.Tables != nil || got.Log != nil {
			t.Error(got, e)
		}
	}
	if _, e := Drop(b, 0, "c"); e != api.ErrRow {
		t.Error(e)
	}
	was := Twin(c)
	d.Log[0].Id, d.Log[2].Was.Data[2].Int, d.Tables[0].Rows[0].Data[2].Int, d.Tables[0].Uniques[0] = "q", 5, 5, "q"
	was.Log[1].Was.Data[2].Int, was.Tables[0].Name = 99, "Z"
	if Check(c) != api.OK || c.Log[1].Was.Data[2].Int != 1 || c.Tables[0].Name != "T" || c.Log[0].Id != "b" {
		t.Error("memory is shared")
	}
}

// P28.1: what may be.
func TestCheck(t *testing.T) {
	tables := func(n int) []api.Table {
		var l []api.Table
		for i := range n {
			l = append(l, api.Table{Name: strconv.Itoa(i), Most: 1})
		}
		return l
	}
	put := api.Change{Table: 0, Id: "a"}
	had := api.Change{Table: 0, Id: "a", Has: true, Was: rec("a", 9)}
	log := func(n int) []api.Change {
		var l []api.Change
		for range n {
			l = append(l, put)
		}
		return l
	}
	with := func(st api.Store, l ...api.Change) api.Store {
		st.Log = l
		return st
	}
	for i, st := range []api.Store{{}, {Tables: tables(32)}, with(store(), log(64)...), with(store(rec("a", 1)), put), with(store(rec("a", 1)), had), with(store(), had), with(store(rec("b", 1)), had), with(store(rec("b", 1), rec("c", 9)), put, api.Change{Id: "c"}, had, api.Change{Id: "c"})} {
		if e := Check(st); e != api.OK {
			t.Error(i, e)
		}
		if got, e := Back(st, 0); e != api.OK || Check(got) != api.OK || len(got.Log) != 0 {
			t.Error(i, got, e)
		}
	}
	other := had
	other.Was = rec("b", 1)
	nothing := had
	nothing.Has = false
	odd := had
	odd.Was.Data = nil
	for i, st := range []api.Store{{Tables: tables(33)}, {Tables: append(tables(2), tables(1)...)}, {Tables: []api.Table{{}}}, with(store(), log(65)...), with(store(), api.Change{Table: 1}), with(store(), api.Change{Table: -1}), with(store(), other), with(store(), nothing), with(store(), odd), with(store(rec("b", 9)), had), with(store(rec("b", 1), rec("c", 2)), had), with(store(rec("b", 1), rec("c", 9)), had, put), {Log: log(1)}} {
		if Check(st) != api.ErrBad {
			t.Error(i)
		}
		if got, e := Put(st, -1, rec("z", 1)); e != api.ErrBad || got.Tables != nil {
			t.Error(i, e)
		}
		if got, e := Back(st, -1); e != api.ErrBad || got.Tables != nil {
			t.Error(i, e)
		}
		if got, e := Forget(st); e != api.ErrBad || got.Tables != nil {
			t.Error(i, e)
		}
		if !Same(Twin(st), st) {
			t.Error(i)
		}
	}
	full := with(store(), log(64)...)
	if got, e := Put(full, 0, rec("z", 1)); e != api.ErrFull || got.Tables != nil {
		t.Error(got, e)
	}
	if _, e := Drop(full, 0, "z"); e != api.ErrRow {
		t.Error(e)
	}
	if Same(full, store()) || !Alike(full, store()) || Alike(store(), store(rec("a", 1))) || !Same(api.Store{}, api.Store{Tables: []api.Table{}, Log: []api.Change{}}) {
		t.Error("same")
	}
}

// Changes are the same just if all that they tell is.
func TestSame(t *testing.T) {
	fresh := func() api.Store {
		st := store()
		st.Log = []api.Change{{Table: 1, Id: "a", Has: true, Was: rec("b", 1)}}
		return st
	}
	for i, turn := range []func(c *api.Change){func(c *api.Change) { c.Table = 0 }, func(c *api.Change) { c.Id = "z" }, func(c *api.Change) { c.Has = false }, func(c *api.Change) { c.Was.Id = "z" }, func(c *api.Change) { c.Was.Data[2].Int = 7 }} {
		st := fresh()
		turn(&st.Log[0])
		if Same(st, fresh()) || !Alike(st, fresh()) {
			t.Error(i)
		}
	}
	if !Same(fresh(), fresh()) {
		t.Error("same")
	}
	// What there was not has neither an Id nor Data.
	for _, was := range []api.Record{{Id: "a"}, {Data: []api.Cell{{}}}} {
		st := store()
		st.Log = []api.Change{{Id: "a", Was: was}}
		if Check(st) != api.ErrBad {
			t.Error(was)
		}
	}
}
