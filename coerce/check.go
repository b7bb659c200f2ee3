package coerce

import (
	"slices"

	"provost/api"
	"provost/cell"
	"provost/kind"
	"provost/scalar"
)

// Check tells whether cells are a value of a type, in one way.
func Check(l []api.Def, t api.Ref, v []api.Cell) api.Errno {
	if !areGood(l, t) || cell.Check(v) != api.OK || !isOf(l, t, v, 0) {
		return api.ErrBad
	}
	return api.OK
}

// isOf tells whether the value at at is one of a type, whatever its name.
func isOf(l []api.Def, t api.Ref, v []api.Cell, at int) bool {
	c := v[at]
	if c.Kind == api.Null {
		return !isNon(t)
	}
	if item, is := kind.Item(t); is {
		isNot := func(kid int) bool { return !isOf(l, item, v, kid) }
		return c.Kind == api.List && !slices.ContainsFunc(kids(v, at), isNot)
	}
	class, which := kind.Class(l, t.Name)
	switch class {
	case api.ClassScalar:
		c.Name = ""
		out, e := scalar.Read(uint8(which), c)
		return e == api.OK && out == c
	case api.ClassEnum:
		return c.Kind == api.Enum && slices.Contains(l[which].Names, c.Text)
	case api.ClassInput:
		return c.Kind == api.Object && areOf(l, l[which].Inputs, v, kids(v, at))
	}
	return false
}

// areOf tells whether members are those of inputs, in their order.
func areOf(l []api.Def, inputs []api.Input, v []api.Cell, members []int) bool {
	met := map[string]struct{}{}
	for _, in := range inputs {
		if _, twice := met[in.Name]; twice {
			continue
		}
		met[in.Name] = struct{}{}
		switch {
		case len(members) > 0 && v[members[0]].Name == in.Name:
			if !isOf(l, in.Type, v, members[0]) {
				return false
			}
			members = members[1:]
		case in.Has || isNon(in.Type):
			return false
		}
	}
	return len(members) == 0
}
