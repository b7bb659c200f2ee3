package rules

import (
	"slices"

	"provost/api"
	"provost/kind"
	"provost/scalar"
)

// typename is the name of the field that each type has.
const typename = "__typename"

// fieldOf is the field of a name, of the type at a place.
func (c *checker) fieldOf(around int, name string) (api.Field, bool) {
	for _, f := range c.s.Defs[around].Fields {
		if f.Name == name {
			return f, true
		}
	}
	return api.Field{}, false
}

// skip is the place behind the selection at at.
func skip(sels []api.Sel, at int) int {
	for open := 1; open > 0; open-- {
		open += sels[at].Many
		at++
	}
	return at
}

// visit shows selections, each with the place of the type around it, up to one that may not be.
func (c *checker) visit(sels []api.Sel, around int, may func(x api.Sel, around int) bool) bool {
	for at := 0; at < len(sels); {
		x, end := sels[at], skip(sels, at)
		if !may(x, around) {
			return false
		}
		within := around
		if f, is := c.fieldOf(around, x.Name); is && x.Kind == api.SelField && x.Many > 0 {
			within, _ = c.typeOf(f.Type.Name)
		}
		if !c.visit(sels[at+1:end], within, may) {
			return false
		}
		at = end
	}
	return true
}

// rootOf is the type of an operation's selections, if there is one.
func (c *checker) rootOf(op api.Op) (int, bool) {
	if op.Kind == api.OpMutation {
		return c.typeOf("Mutation")
	}
	return c.typeOf("Query")
}

// all shows all selections of the document.
func (c *checker) all(may func(x api.Sel, around int) bool) bool {
	for _, op := range c.d.Ops {
		root, is := c.rootOf(op)
		if !is || !c.visit(op.Sels, root, may) {
			return false
		}
	}
	for _, f := range c.d.Frags {
		on, _ := c.typeOf(f.On)
		if !c.visit(f.Sels, on, may) {
			return false
		}
	}
	return true
}

func (c *checker) fields() api.Errno {
	return only(c.all(func(x api.Sel, around int) bool {
		name := c.s.Defs[around].Name
		switch x.Kind {
		case api.SelSpread:
			return c.d.Frags[c.frags[x.Name]].On == name
		case api.SelInline:
			return x.Name == "" || x.Name == name
		}
		if x.Name == typename {
			return x.Many == 0
		}
		f, is := c.fieldOf(around, x.Name)
		_, record := c.typeOf(f.Type.Name)
		return is && record == (x.Many > 0)
	}))
}

// inputOf is the input of a name among some.
func inputOf(l []api.Input, name string) (api.Input, bool) {
	for _, in := range l {
		if in.Name == name {
			return in, true
		}
	}
	return api.Input{}, false
}

// areTold tells whether each name is one of inputs', and all of these that have to be told are.
func areTold(names []string, l []api.Input) bool {
	for _, name := range names {
		if _, is := inputOf(l, name); !is {
			return false
		}
	}
	for _, in := range l {
		if isNon(in.Type) && !in.Has && !slices.Contains(names, in.Name) {
			return false
		}
	}
	return true
}

// isNon tells whether a type may not be null.
func isNon(t api.Ref) bool {
	return len(t.Wraps) > 0 && t.Wraps[0] == api.WrapNon
}

func (c *checker) arguments() api.Errno {
	return only(c.all(func(x api.Sel, around int) bool {
		f, _ := c.fieldOf(around, x.Name)
		if x.Kind != api.SelField {
			return true
		}
		return areTold(namesOf(x.Args, func(a api.Arg) string { return a.Name }), f.Args)
	}))
}

func (c *checker) directives() api.Errno {
	return only(c.all(func(x api.Sel, around int) bool {
		for _, d := range x.Dirs {
			if d.Name != "skip" && d.Name != "include" || len(d.Args) != 1 || d.Args[0].Name != "if" {
				return false
			}
		}
		return areApart(namesOf(x.Dirs, func(d api.Dir) string { return d.Name }))
	}))
}

// literals asks of each operation whether the arguments that it has fit.
func (c *checker) literals() api.Errno {
	for _, op := range c.d.Ops {
		root, _ := c.rootOf(op)
		fits := func(x api.Sel, around int) bool { return c.argumentsFit(op, x, around) }
		if !c.visit(op.Sels, root, fits) {
			return api.ErrRule
		}
		for at := range c.reached(op.Sels) {
			on, _ := c.typeOf(c.d.Frags[at].On)
			if !c.visit(c.d.Frags[at].Sels, on, fits) {
				return api.ErrRule
			}
		}
	}
	return api.OK
}

// argumentsFit tells whether a selection's arguments, and its directives', fit.
func (c *checker) argumentsFit(op api.Op, x api.Sel, around int) bool {
	for _, d := range x.Dirs {
		for _, a := range d.Args {
			if !c.fits(op, a.Value, api.Input{Type: api.Ref{Name: "Boolean", Wraps: []uint8{api.WrapNon}}}) {
				return false
			}
		}
	}
	if x.Kind != api.SelField {
		return true
	}
	f, _ := c.fieldOf(around, x.Name)
	for _, a := range x.Args {
		in, _ := inputOf(f.Args, a.Name)
		if !c.fits(op, a.Value, in) {
			return false
		}
	}
	return true
}

// fits tells whether a literal, whatever its name, fits a type, with a default there or without.
func (c *checker) fits(op api.Op, v []api.Cell, there api.Input) bool {
	head := v[0]
	if head.Kind == api.Var {
		own, is := inputOf(op.Vars, head.Text)
		return is && kind.Usable(own, there.Type, there.Has)
	}
	if head.Kind == api.Null {
		return !isNon(there.Type)
	}
	if item, is := kind.Item(there.Type); is {
		within := [][]api.Cell{v}
		if head.Kind == api.List {
			within = parts(v)
		}
		return !slices.ContainsFunc(within, func(x []api.Cell) bool { return !c.fits(op, x, api.Input{Type: item}) })
	}
	class, at := kind.Class(c.s.Defs, there.Type.Name)
	switch class {
	case api.ClassScalar:
		_, e := scalar.Read(uint8(at), head)
		return e == api.OK
	case api.ClassEnum:
		return head.Kind == api.Enum && slices.Contains(c.s.Defs[at].Names, head.Text)
	case api.ClassInput:
		return head.Kind == api.Object && c.membersFit(op, parts(v), c.s.Defs[at].Inputs)
	}
	return false
}

// membersFit tells whether an object's members fit inputs.
func (c *checker) membersFit(op api.Op, members [][]api.Cell, l []api.Input) bool {
	for _, v := range members {
		in, is := inputOf(l, v[0].Name)
		if !is || !c.fits(op, v, in) {
			return false
		}
	}
	return areTold(namesOf(members, func(v []api.Cell) string { return v[0].Name }), l)
}

// parts are a list's items, an object's members.
func parts(v []api.Cell) [][]api.Cell {
	var out [][]api.Cell
	for at := 1; at < len(v); {
		end := at
		for open := 1; open > 0; open-- {
			open += v[end].Many
			end++
		}
		out = append(out, v[at:end])
		at = end
	}
	return out
}

// sameArguments tells whether two fields have the same arguments, in any order.
func sameArguments(a, b []api.Arg) bool {
	isNone := func(x api.Arg) bool {
		return !slices.ContainsFunc(b, func(y api.Arg) bool { return x.Name == y.Name && slices.Equal(x.Value, y.Value) })
	}
	return len(a) == len(b) && !slices.ContainsFunc(a, isNone)
}
