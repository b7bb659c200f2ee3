package act

import (
	"slices"

	"provost/api"
	"provost/cell"
	"provost/coerce"
)

// isName tells whether s is a name.
func isName(s string) bool {
	for i := 0; i < len(s); i++ {
		b := s[i]
		letter := b == '_' || b >= 'a' && b <= 'z' || b >= 'A' && b <= 'Z'
		if !letter && (i == 0 || b < '0' || b > '9') {
			return false
		}
	}
	return s != ""
}

// isLiteral tells whether cells are a literal: its names are names, and no enum value is null, true or false.
func isLiteral(v []api.Cell) bool {
	isOdd := func(c api.Cell) bool {
		reserved := c.Text == "null" || c.Text == "true" || c.Text == "false"
		return c.Name != "" && !isName(c.Name) || c.Kind == api.Enum && reserved
	}
	return cell.Check(v) == api.OK && !slices.ContainsFunc(v, isOdd)
}

// argsMayBe tells whether a pick's arguments may be.
func argsMayBe(l []api.Arg) bool {
	met := map[string]struct{}{}
	for _, a := range l {
		if _, twice := met[a.Name]; twice || !isName(a.Name) || !isLiteral(a.Value) {
			return false
		}
		met[a.Name] = struct{}{}
	}
	return true
}

// varsMayBe tells whether each variable has a name, and a value without variables.
func varsMayBe(l []api.Arg) bool {
	return !slices.ContainsFunc(l, func(a api.Arg) bool {
		isVar := func(c api.Cell) bool { return c.Kind == api.Var }
		return !isName(a.Name) || cell.Check(a.Value) != api.OK || slices.ContainsFunc(a.Value, isVar)
	})
}

// planner holds a plan against a schema.
type planner struct {
	s    api.Schema
	plan []api.Pick
}

// mayBe tells whether the plan may be, of a root.
func (p *planner) mayBe(root api.Def) bool {
	if len(p.plan) > api.MaxPicked {
		return false
	}
	keys := map[string]struct{}{}
	for at := 0; at < len(p.plan); {
		f, is := fieldOf(root, p.plan[at].Name)
		within, _ := typeOf(p.s, f.Type.Name)
		if !is && p.plan[at].Name != typename {
			return false
		}
		var ok bool
		if at, ok = p.one(at, within, is, 1, keys); !ok {
			return false
		}
	}
	return true
}

// one tells whether the pick at at may be, so deep in others, among those of some keys; and the place behind all that is under it, which is of a type, if there may be some.
func (p *planner) one(at int, within api.Def, some bool, deep int, keys map[string]struct{}) (int, bool) {
	x := p.plan[at]
	_, twice := keys[x.Key]
	if twice || !isName(x.Key) || !argsMayBe(x.Args) || x.Many < 0 || x.Many > 0 && !some || deep > api.MaxDepth {
		return 0, false
	}
	keys[x.Key] = struct{}{}
	own := map[string]struct{}{}
	next := at + 1
	for range x.Many {
		if next >= len(p.plan) {
			return 0, false
		}
		f, is := fieldOf(within, p.plan[next].Name)
		link, isLink := typeOf(p.s, f.Type.Name)
		if !is && p.plan[next].Name != typename {
			return 0, false
		}
		var ok bool
		if next, ok = p.one(next, link, isLink, deep+1, own); !ok {
			return 0, false
		}
	}
	return next, true
}

// skip is the place behind a pick and all under it.
func (p *planner) skip(at int) int {
	for open := 1; open > 0; open-- {
		open += p.plan[at].Many
		at++
	}
	return at
}

// tops are the places of the picks at the top, up to an end.
func (p *planner) tops(at, end int) []int {
	var out []int
	for ; at < end; at = p.skip(at) {
		out = append(out, at)
	}
	return out
}

// Values are a plan's arguments.
func Values(s api.Schema, kind uint8, plan []api.Pick, vars []api.Arg) (args [][]api.Cell, path []api.Step, e api.Errno) {
	root, is := rootOf(s, kind)
	p := &planner{s: s, plan: plan}
	if !schemaMayBe(s) || !is || !p.mayBe(root) || !varsMayBe(vars) {
		return nil, nil, api.ErrBad
	}
	for _, at := range p.tops(0, len(plan)) {
		f, _ := fieldOf(root, plan[at].Name)
		object := []api.Cell{{Kind: api.Object}}
		for _, in := range f.Args {
			v, path, e := p.value(in, plan[at], vars)
			if e == api.ErrNone {
				continue
			}
			if e != api.OK {
				return nil, append([]api.Step{{Name: plan[at].Key}, {Name: in.Name}}, path...), e
			}
			object = append(object, named(v, in.Name)...)
			object[0].Many++
		}
		args = append(args, object)
	}
	return args, nil, api.OK
}

// value is what a pick tells for an argument, made a value; ErrNone, if there is none.
func (p *planner) value(in api.Input, x api.Pick, vars []api.Arg) ([]api.Cell, []api.Step, api.Errno) {
	for _, a := range x.Args {
		if a.Name != in.Name {
			continue
		}
		if v, path, e := coerce.Literal(p.s.Defs, in.Type, a.Value, vars); e != api.ErrNone {
			return v, path, e
		}
	}
	if in.Has {
		return coerce.Literal(p.s.Defs, in.Type, in.Default, nil)
	}
	if isNon(in.Type) {
		return nil, nil, api.ErrCoerce
	}
	return nil, nil, api.ErrNone
}
