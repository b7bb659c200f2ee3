package bound

import (
	"provost/api"
	"provost/kind"
	"provost/scalar"
	"provost/subset"
	"provost/text"
)

// walker walks through arguments, and notes what is broken.
type walker struct {
	s   api.Schema
	v   []api.Cell
	out []api.Broken
}

// note notes what is broken, its path in new memory.
func (w *walker) note(path []api.Step, dir, code string) {
	own := make([]api.Step, len(path))
	copy(own, path)
	w.out = append(w.out, api.Broken{Path: own, Dir: dir, Code: code})
}

// step is a path one step on: two that go on from one share no memory behind it.
func step(path []api.Step, s api.Step) []api.Step {
	return append(path[:len(path):len(path)], s)
}

// kids are the places where items, members begin.
func (w *walker) kids(at int) []int {
	var out []int
	next := at + 1
	for range w.v[at].Many {
		out = append(out, next)
		for open := 1; open > 0; open-- {
			open += w.v[next].Many
			next++
		}
	}
	return out
}

// member is the place of an object's member of a name, if that is told and no Null.
func (w *walker) member(at int, name string) (int, bool) {
	for _, kid := range w.kids(at) {
		if w.v[kid].Name == name {
			return kid, w.v[kid].Kind != api.Null
		}
	}
	return 0, false
}

// within shows all that is no list and no Null in the value at at.
func (w *walker) within(at int, path []api.Step, show func(at int, path []api.Step)) {
	switch w.v[at].Kind {
	case api.Null:
	case api.List:
		for i, kid := range w.kids(at) {
			w.within(kid, step(path, api.Step{At: i}), show)
		}
	default:
		show(at, path)
	}
}

// bare is a cell without its name.
func (w *walker) bare(at int) api.Cell {
	c := w.v[at]
	c.Name = ""
	return c
}

// constraint looks at a value, and notes where it is broken.
type constraint interface {
	look(at int, path []api.Step)
}

type (
	ranged struct {
		*walker
		dir   api.Dir
		which uint8
	}
	long struct {
		*walker
		dir   api.Dir
		which uint8
	}
	patterned struct {
		*walker
		dir api.Dir
	}
	single struct {
		*walker
	}
	ruled struct {
		*walker
		dir   api.Dir
		which uint8
	}
)

// argument is the value of a directive's argument, if it is told.
func argument(d api.Dir, name string) (api.Cell, bool) {
	for _, a := range d.Args {
		if a.Name == name {
			return a.Value[0], true
		}
	}
	return api.Cell{}, false
}

func (c ranged) look(at int, path []api.Step) {
	c.within(at, path, func(at int, path []api.Step) {
		if c.isPast(at, "min", -1) || c.isPast(at, "max", 1) {
			c.note(path, "range", "RANGE")
		}
	})
}

// isPast tells whether a value is on a certain side of a bound, if that is told.
func (c ranged) isPast(at int, name string, side int) bool {
	bound, told := argument(c.dir, name)
	if !told {
		return false
	}
	limit, _ := scalar.Read(c.which, bound)
	order, e := scalar.Compare(c.which, c.bare(at), limit)
	return e == api.OK && order == side
}

func (c long) look(at int, path []api.Step) {
	n := c.v[at].Many
	if c.v[at].Kind != api.List {
		n, _ = scalar.Long(c.which, c.bare(at))
	}
	least, hasLeast := argument(c.dir, "min")
	most, hasMost := argument(c.dir, "max")
	if hasLeast && int64(n) < least.Int || hasMost && int64(n) > most.Int {
		c.note(path, "length", "LENGTH")
	}
}

func (c patterned) look(at int, path []api.Step) {
	is, _ := argument(c.dir, "is")
	c.within(at, path, func(at int, path []api.Step) {
		if !c.accepts(is.Text, c.v[at].Text) {
			c.note(path, "pattern", "PATTERN")
		}
	})
}

// accepts tells whether the schema's automaton of a pattern accepts a text.
func (w *walker) accepts(pattern, s string) bool {
	if n, e := text.Count(s); e != api.OK || n > api.MaxWord {
		return false
	}
	var points []int
	for _, r := range s {
		points = append(points, int(r))
	}
	for _, p := range w.s.Patterns {
		if p.Text == pattern {
			is, e := subset.Run(p.Dfa, points)
			return e == api.OK && is
		}
	}
	return false
}

func (c single) look(at int, path []api.Step) {
	if kids := c.kids(at); len(kids) != 1 || c.v[kids[0]].Kind == api.Null {
		c.note(path, "oneOf", "ONE_OF")
	}
}

func (c ruled) look(at int, path []api.Step) {
	left, _ := argument(c.dir, "left")
	right, _ := argument(c.dir, "right")
	is, _ := argument(c.dir, "is")
	a, isLeft := c.member(at, left.Text)
	b, isRight := c.member(at, right.Text)
	if !isLeft || !isRight {
		return
	}
	if order, e := scalar.Compare(c.which, c.bare(a), c.bare(b)); e == api.OK && !holds(is.Text, order) {
		c.note(path, "rule", "RULE")
	}
}

// holds tells whether an order is as told.
func holds(is string, order int) bool {
	switch is {
	case "LT":
		return order < 0
	case "LE":
		return order <= 0
	case "EQ":
		return order == 0
	case "NE":
		return order != 0
	case "GE":
		return order >= 0
	}
	return order > 0
}

// ofComingIn are the constraints of an argument, or an Input, in order.
func (w *walker) ofComingIn(in api.Input) []constraint {
	which, _ := scalar.Of(in.Type.Name)
	var out []constraint
	for _, d := range in.Dirs {
		switch d.Name {
		case "range":
			out = append(out, ranged{w, d, which})
		case "length":
			out = append(out, long{w, d, which})
		case "pattern":
			out = append(out, patterned{w, d})
		}
	}
	return out
}

// ofInput are the constraints of an input, in order.
func (w *walker) ofInput(def api.Def) []constraint {
	var out []constraint
	for _, d := range def.Dirs {
		switch d.Name {
		case "oneOf":
			out = append(out, single{w})
		case "rule":
			left, _ := argument(d, "left")
			in, _ := inputOf(def.Inputs, left.Text)
			which, _ := scalar.Of(in.Type.Name)
			out = append(out, ruled{w, d, which})
		}
	}
	return out
}

// inputOf is the input of a name.
func inputOf(l []api.Input, name string) (api.Input, bool) {
	for _, in := range l {
		if in.Name == name {
			return in, true
		}
	}
	return api.Input{}, false
}

// members looks at an object's members, in order.
func (w *walker) members(at int, l []api.Input, path []api.Step) {
	for _, kid := range w.kids(at) {
		name := w.v[kid].Name
		if in, is := inputOf(l, name); is && w.v[kid].Kind != api.Null {
			w.value(kid, in, step(path, api.Step{Name: name}))
		}
	}
}

// value looks at what is told of an argument, or an Input.
func (w *walker) value(at int, in api.Input, path []api.Step) {
	for _, c := range w.ofComingIn(in) {
		c.look(at, path)
	}
	class, which := kind.Class(w.s.Defs, in.Type.Name)
	if class != api.ClassInput {
		return
	}
	def := w.s.Defs[which]
	w.within(at, path, func(at int, path []api.Step) {
		for _, c := range w.ofInput(def) {
			c.look(at, path)
		}
		w.members(at, def.Inputs, path)
	})
}
