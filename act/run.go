package act

import (
	"errors"

	"provost/api"
	"provost/bound"
	"provost/cell"
	"provost/kind"
	"provost/undo"
)

// up is thrown by what is Null and may not be: it goes up to where it may stand.
type up struct{}

// runner executes a plan.
type runner struct {
	planner
	st     api.Store
	faults []api.Fault
}

// argsAreGood tells whether there is just one Object for each pick at the top, that may be its field's arguments.
func argsAreGood(s api.Schema, kind uint8, plan []api.Pick, tops []int, args [][]api.Cell) bool {
	if len(tops) != len(args) {
		return false
	}
	for i, at := range tops {
		empty := cell.Same(args[i], []api.Cell{{Kind: api.Object}})
		if plan[at].Name == typename && !empty || plan[at].Name != typename && bound.Check(s, kind, plan[at].Name, args[i]) != api.OK {
			return false
		}
	}
	return true
}

// Run executes a plan.
func Run(s api.Schema, st api.Store, kind uint8, plan []api.Pick, args [][]api.Cell) (data []api.Cell, faults []api.Fault, calls []api.Call, out api.Store, e api.Errno) {
	if e := Check(s, st); e != api.OK {
		return nil, nil, nil, api.Store{}, e
	}
	r := &runner{planner: planner{s: s, plan: plan}}
	root, is := rootOf(s, kind)
	if !is || !r.mayBe(root) {
		return nil, nil, nil, api.Store{}, api.ErrBad
	}
	tops := r.tops(0, len(plan))
	if !argsAreGood(s, kind, plan, tops, args) {
		return nil, nil, nil, api.Store{}, api.ErrArg
	}
	r.st, _ = undo.Forget(st)
	data = []api.Cell{{Kind: api.Object, Many: len(tops)}}
	null := false
	for i, at := range tops {
		key := plan[at].Key
		if plan[at].Name == typename {
			data = append(data, api.Cell{Name: key, Kind: api.Text, Text: root.Name})
			continue
		}
		f, _ := fieldOf(root, plan[at].Name)
		calls = append(calls, api.Call{Field: f.Name, Args: cell.Twin(args[i])})
		v, stands := r.field(f, at, args[i])
		null = null || !stands
		data = append(data, named(v, key)...)
	}
	if null {
		data = []api.Cell{{}}
	}
	return data, r.faults, calls, r.st, api.OK
}

// field is what comes of a pick at the top, and whether that may stand there.
func (r *runner) field(f api.Field, at int, args []api.Cell) ([]api.Cell, bool) {
	path := []api.Step{{Name: r.plan[at].Key}}
	c := newCall(r.s, r.st, f, args)
	res, err := c.verb()
	var fail failure
	if errors.As(err, &fail) {
		r.st, _ = undo.Back(c.st, 0)
		r.fault(fail.code, path)
		return []api.Cell{{}}, !isNon(f.Type)
	}
	// What was done stands: the next call begins with an empty Log.
	r.st, _ = undo.Forget(c.st)
	return r.place(f.Type, func() []api.Cell { return r.complete(f.Type, res, at, path, "NO_RECORD") })
}

// place is what a part of a type is at its place, and whether that may stand there. Null that goes up from a part is held here, so that the parts beside it are completed, too.
func (r *runner) place(t api.Ref, part func() []api.Cell) (v []api.Cell, stands bool) {
	defer func() {
		switch x := recover().(type) {
		case nil:
		case up:
			v, stands = []api.Cell{{}}, !isNon(t)
		default:
			panic(x)
		}
	}()
	return part(), true
}

// fault adds an error.
func (r *runner) fault(code string, path []api.Step) {
	r.faults = append(r.faults, api.Fault{Code: code, Path: append([]api.Step(nil), path...)})
}

// step is a path one step on, in new memory.
func step(path []api.Step, s api.Step) []api.Step {
	return append(path[:len(path):len(path)], s)
}

// complete is a result, completed of a type, with the picks under the one at at. Null goes up from what may not be it.
func (r *runner) complete(t api.Ref, res result, at int, path []api.Step, code string) []api.Cell {
	if item, is := kind.Item(t); is {
		return r.list(item, res, at, path, code)
	}
	if len(res.rows) > 0 {
		return r.object(t.Name, res.rows[0], at, path)
	}
	if isNon(t) {
		r.fault(code, path)
		panic(up{})
	}
	return []api.Cell{{}}
}

// list is records, each completed by the item. Null goes up only behind the last one: each that fails adds its error.
func (r *runner) list(item api.Ref, res result, at int, path []api.Step, code string) []api.Cell {
	out := []api.Cell{{Kind: api.List, Many: len(res.rows)}}
	null := false
	for i, row := range res.rows {
		one, under := result{[]api.Record{row}}, step(path, api.Step{At: i})
		v, stands := r.place(item, func() []api.Cell { return r.complete(item, one, at, under, code) })
		null = null || !stands
		out = append(out, v...)
	}
	if null {
		panic(up{})
	}
	return out
}

// object is a record, completed with the picks under the one at at. Null goes up only behind the last one: each that fails adds its error.
func (r *runner) object(name string, row api.Record, at int, path []api.Step) []api.Cell {
	d, _ := typeOf(r.s, name)
	out := []api.Cell{{Kind: api.Object, Many: r.plan[at].Many}}
	null := false
	for _, kid := range r.tops(at+1, r.skip(at)) {
		key := r.plan[kid].Key
		v, stands := r.member(d, row, kid, step(path, api.Step{Name: key}))
		null = null || !stands
		out = append(out, named(v, key)...)
	}
	if null {
		panic(up{})
	}
	return out
}

// member is what a record has for a pick, and whether that may stand there.
func (r *runner) member(d api.Def, row api.Record, at int, path []api.Step) ([]api.Cell, bool) {
	name := r.plan[at].Name
	if name == typename {
		return []api.Cell{{Kind: api.Text, Text: d.Name}}, true
	}
	f, _ := fieldOf(d, name)
	if _, link := typeOf(r.s, f.Type.Name); !link {
		return leaf(row, name), true
	}
	var res result
	by := leaf(row, argument(f.Dirs[0], "by")[0].Text)
	to, _ := undo.Find(r.st, f.Type.Name)
	if linked, is := rowOf(r.st.Tables[to], by[0].Text); is && by[0].Kind != api.Null {
		res.rows = []api.Record{linked}
	}
	return r.place(f.Type, func() []api.Cell { return r.complete(f.Type, res, at, path, "NO_LINK") })
}
