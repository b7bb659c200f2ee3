package rules

import "provost/api"

// group is the fields of a scope with one key.
type group struct {
	name   string
	args   []api.Arg
	apart  bool // one has another Name, or other arguments
	within [][]api.Sel
}

// scope is the groups of some selections, in the order in which their keys come up.
type scope struct {
	keys   map[string]int
	met    map[string]struct{}
	groups []group
}

// scopeOf is the scope of selections, one behind the other.
func (c *checker) scopeOf(sets [][]api.Sel) *scope {
	s := &scope{keys: map[string]int{}, met: map[string]struct{}{}}
	for _, sels := range sets {
		c.collect(s, sels)
	}
	return s
}

// collect puts selections into a scope.
func (c *checker) collect(s *scope, sels []api.Sel) {
	for at := 0; at < len(sels); {
		x, end := sels[at], skip(sels, at)
		switch x.Kind {
		case api.SelField:
			s.add(x, sels[at+1:end])
		case api.SelInline:
			c.collect(s, sels[at+1:end])
		case api.SelSpread:
			if _, met := s.met[x.Name]; !met {
				s.met[x.Name] = struct{}{}
				c.collect(s, c.d.Frags[c.frags[x.Name]].Sels)
			}
		}
		at = end
	}
}

// add puts a field into a scope.
func (s *scope) add(x api.Sel, within []api.Sel) {
	key := x.Alias
	if key == "" {
		key = x.Name
	}
	at, is := s.keys[key]
	if !is {
		at = len(s.groups)
		s.keys[key] = at
		s.groups = append(s.groups, group{name: x.Name, args: x.Args})
	}
	g := &s.groups[at]
	g.apart = g.apart || g.name != x.Name || !sameArguments(g.args, x.Args)
	if len(within) > 0 {
		g.within = append(g.within, within)
	}
}

func (c *checker) scopes() api.Errno {
	for _, op := range c.d.Ops {
		if e := c.merge(op); e != api.OK {
			return e
		}
	}
	return api.OK
}

// merge goes through the scopes of an operation: key by key, each one's within at once.
func (c *checker) merge(op api.Op) api.Errno {
	e := api.OK
	open := []*scope{c.scopeOf([][]api.Sel{op.Sels})}
	count := 1
scopes:
	for len(open) > 0 {
		last := open[len(open)-1]
		if len(last.groups) == 0 {
			open = open[:len(open)-1]
			continue
		}
		g := last.groups[0]
		last.groups = last.groups[1:]
		switch {
		case g.apart:
			e = api.ErrRule
			break scopes
		case len(g.within) == 0:
		case count == api.MaxPicked:
			e = api.ErrMany
			break scopes
		default:
			count++
			open = append(open, c.scopeOf(g.within))
		}
	}
	return e
}
