package act

import (
	"slices"

	"provost/api"
	"provost/cell"
	"provost/kind"
	"provost/scalar"
	"provost/undo"
)

// failure is by which code a call fails.
type failure struct {
	code string
}

func (f failure) Error() string {
	return f.code
}

// result is what a call tells: records, of which there are many, or at most one.
type result struct {
	rows []api.Record
}

// call is one of a root's field.
type call struct {
	s      api.Schema
	st     api.Store
	field  api.Field
	record api.Def
	table  int
	told   [][]api.Cell
}

// newCall is a call of a field that may be, with arguments that may be.
func newCall(s api.Schema, st api.Store, f api.Field, args []api.Cell) *call {
	c := &call{s: s, st: st, field: f}
	c.record, _ = typeOf(s, f.Type.Name)
	c.table, _ = undo.Find(st, f.Type.Name)
	for _, v := range parts(args) {
		at := slices.IndexFunc(f.Args, func(in api.Input) bool { return in.Name == v[0].Name })
		class, _ := kind.Class(s.Defs, f.Args[at].Type.Name)
		_, list := kind.Item(f.Args[at].Type)
		if class != api.ClassInput || list {
			c.told = append(c.told, v)
			continue
		}
		c.told = append(c.told, parts(v)...)
	}
	return c
}

// verb does what the field's directive asks.
func (c *call) verb() (result, error) {
	verbs := map[string]func() (result, error){"get": c.get, "list": c.list, "create": c.create, "update": c.update, "delete": c.drop}
	return verbs[c.field.Dirs[0].Name]()
}

// find is what is told under a name.
func (c *call) find(name string) ([]api.Cell, bool) {
	for _, v := range c.told {
		if v[0].Name == name {
			return v, true
		}
	}
	return nil, false
}

// id is the id that is told.
func (c *call) id() string {
	v, is := c.find("id")
	if !is {
		return ""
	}
	return v[0].Text
}

// rowOf is the record of an Id, of a table.
func rowOf(t api.Table, id string) (api.Record, bool) {
	for _, r := range t.Rows {
		if r.Id == id {
			return r, true
		}
	}
	return api.Record{}, false
}

// leaf is a record's value under a name.
func leaf(r api.Record, name string) []api.Cell {
	for _, v := range parts(r.Data) {
		if v[0].Name == name {
			return v
		}
	}
	return []api.Cell{{}}
}

func (c *call) get() (result, error) {
	r, is := rowOf(c.st.Tables[c.table], c.id())
	if !is {
		return result{}, nil
	}
	return result{[]api.Record{r}}, nil
}

func (c *call) list() (result, error) {
	isOther := func(r api.Record) bool {
		return slices.ContainsFunc(c.told, func(v []api.Cell) bool {
			return v[0].Kind != api.Null && !cell.Same(v, leaf(r, v[0].Name))
		})
	}
	return result{slices.DeleteFunc(slices.Clone(c.st.Tables[c.table].Rows), isOther)}, nil
}

// keep keeps the store that a change tells, or fails.
func (c *call) keep(r api.Record) func(st api.Store, e api.Errno) (result, error) {
	return func(st api.Store, e api.Errno) (result, error) {
		switch e {
		case api.OK:
			c.st = st
			return result{[]api.Record{r}}, nil
		case api.ErrSame:
			return result{}, failure{"DUPLICATE"}
		case api.ErrTable:
			return result{}, failure{"TABLE_FULL"}
		}
		return result{}, failure{"TOO_LARGE"}
	}
}

// recordOf is a record of leaves, each by its name.
func (c *call) recordOf(id string, value func(name string) []api.Cell) api.Record {
	leaves := leavesOf(c.s, c.record)
	data := []api.Cell{{Kind: api.Object, Many: len(leaves)}}
	for _, f := range leaves {
		data = append(data, named(value(f.Name), f.Name)...)
	}
	return api.Record{Id: id, Data: data}
}

func (c *call) create() (result, error) {
	r := c.recordOf(c.id(), func(name string) []api.Cell {
		if v, is := c.find(name); is {
			return v
		}
		return []api.Cell{{}}
	})
	return c.keep(r)(undo.Put(c.st, c.table, r))
}

func (c *call) drop() (result, error) {
	r, is := rowOf(c.st.Tables[c.table], c.id())
	if !is {
		return result{}, failure{"NO_RECORD"}
	}
	return c.keep(r)(undo.Drop(c.st, c.table, r.Id))
}

func (c *call) update() (result, error) {
	old, is := rowOf(c.st.Tables[c.table], c.id())
	if !is {
		return result{}, failure{"NO_RECORD"}
	}
	turned := map[string][]api.Cell{}
	for _, v := range c.told {
		name := v[0].Name
		if name == "id" {
			continue
		}
		next, err := c.turn(leaf(old, name), v)
		if err != nil {
			return result{}, err
		}
		turned[name] = next
	}
	r := c.recordOf(old.Id, func(name string) []api.Cell {
		if v, is := turned[name]; is {
			return v
		}
		return leaf(old, name)
	})
	return c.keep(r)(undo.Set(c.st, c.table, r))
}

// turn is what stands in a leaf when something is told for it.
func (c *call) turn(was, told []api.Cell) ([]api.Cell, error) {
	f, _ := fieldOf(c.record, told[0].Name)
	added := slices.ContainsFunc(argument(c.field.Dirs[0], "add"), func(c api.Cell) bool { return c.Kind == api.Text && c.Text == f.Name })
	null := told[0].Kind == api.Null
	switch {
	case !added && null && isNon(f.Type):
		return nil, failure{"NULL_VALUE"}
	case !added:
		return told, nil
	case null:
		return was, nil
	case was[0].Kind == api.Null:
		return nil, failure{"NULL_VALUE"}
	}
	which, _ := scalar.Of(f.Type.Name)
	sum, e := scalar.Add(which, named(was, "")[0], named(told, "")[0])
	if e != api.OK {
		return nil, failure{"OVERFLOW"}
	}
	return []api.Cell{sum}, nil
}
