package schema

import (
	"slices"
	"strings"

	"provost/api"
	"provost/coerce"
	"provost/kind"
	"provost/scalar"
)

// isTooMany tells whether a definition has too many of something.
func isTooMany(d api.Def) bool {
	return len(d.Names) > api.MaxFields || len(d.Inputs) > api.MaxFields || len(d.Fields) > api.MaxFields ||
		slices.ContainsFunc(d.Fields, func(f api.Field) bool { return len(f.Args) > api.MaxFields })
}

// isKept tells whether a name is one that no definition may use.
func isKept(name string) bool {
	return strings.HasPrefix(name, "__")
}

// clash tells whether two of some names are one, or one is kept.
func clash(names []string) bool {
	met := map[string]struct{}{}
	for _, name := range names {
		if _, twice := met[name]; twice || isKept(name) {
			return true
		}
		met[name] = struct{}{}
	}
	return false
}

func inputName(in api.Input) string { return in.Name }

func fieldName(f api.Field) string { return f.Name }

// isTwice tells whether a name of a definition, or within it, is there already, or may not be.
func isTwice(l []api.Def, at int) bool {
	d := l[at]
	_, is := scalar.Of(d.Name)
	earlier := slices.ContainsFunc(l[:at], func(x api.Def) bool { return x.Name == d.Name })
	return is || earlier || isKept(d.Name) || clash(d.Names) || clash(each(d.Inputs, inputName)) || clash(each(d.Fields, fieldName)) ||
		slices.ContainsFunc(d.Fields, func(f api.Field) bool { return clash(each(f.Args, inputName)) })
}

// classOf is what a type names.
func classOf(l []api.Def, t api.Ref) uint8 {
	class, _ := kind.Class(l, t.Name)
	return class
}

// namesNone tells whether a type of a definition names nothing that may stand there.
func namesNone(l []api.Def, d api.Def) bool {
	noInput := func(in api.Input) bool {
		class := classOf(l, in.Type)
		return class == api.ClassNone || class == api.ClassType
	}
	noField := func(f api.Field) bool {
		class := classOf(l, f.Type)
		return class == api.ClassNone || class == api.ClassInput
	}
	return slices.ContainsFunc(comingIn(d), noInput) || slices.ContainsFunc(d.Fields, noField)
}

// isType tells whether a name is a type's.
func isType(l []api.Def, name string) bool {
	class, _ := kind.Class(l, name)
	return class == api.ClassType
}

// isRoot tells whether a name is a root's.
func isRoot(name string) bool {
	return name == "Query" || name == "Mutation"
}

// defaultsMayBe tells whether each Default of a definition is made a value of its type.
func defaultsMayBe(l []api.Def, d api.Def) bool {
	// Types play no part in it: values are of enums and inputs.
	values := slices.DeleteFunc(slices.Clone(l), func(x api.Def) bool { return x.Kind == api.DefType })
	isNone := func(in api.Input) bool {
		defs := values
		if classOf(l, in.Type) == api.ClassScalar {
			defs = nil
		}
		if !in.Has {
			return false
		}
		_, _, e := coerce.Literal(defs, in.Type, in.Default, nil)
		return e != api.OK
	}
	return !slices.ContainsFunc(comingIn(d), isNone)
}

// isNon tells whether a type may not be null.
func isNon(t api.Ref) bool {
	return len(t.Wraps) > 0 && t.Wraps[0] == api.WrapNon
}

// isList tells whether a type is a list.
func isList(t api.Ref) bool {
	_, is := kind.Item(t)
	return is
}

// isId tells whether a type is ID ! .
func isId(t api.Ref) bool {
	return t.Name == "ID" && len(t.Wraps) == 1 && isNon(t)
}

// isOrdered tells whether a type names a scalar with an order.
func isOrdered(t api.Ref) bool {
	which, is := scalar.Of(t.Name)
	_, e := scalar.Compare(which, api.Cell{}, api.Cell{})
	return is && e != api.ErrNone
}

// formMayBe tells whether a definition's form may be.
func formMayBe(l []api.Def, d api.Def) bool {
	switch {
	case d.Kind == api.DefEnum:
		return len(d.Dirs) == 0
	case d.Kind == api.DefInput:
		return inputMayBe(d)
	case isRoot(d.Name):
		return len(d.Dirs) == 0 && !slices.ContainsFunc(d.Fields, func(f api.Field) bool { return !rootFieldMayBe(l, d.Name, f) })
	}
	return recordMayBe(l, d)
}

// inputMayBe tells whether an input's form may be.
func inputMayBe(d api.Def) bool {
	if !mayStand(d.Dirs, onInput()) {
		return false
	}
	if _, is := directive(d.Dirs, "oneOf"); is {
		isSet := func(in api.Input) bool { return isNon(in.Type) || in.Has }
		if slices.ContainsFunc(d.Inputs, isSet) {
			return false
		}
	}
	if rule, is := directive(d.Dirs, "rule"); is {
		left, isLeft := inputOf(d, textOf(rule, "left"))
		right, isRight := inputOf(d, textOf(rule, "right"))
		if !isLeft || !isRight || isList(left.Type) || isList(right.Type) || left.Type.Name != right.Type.Name || !isOrdered(left.Type) {
			return false
		}
	}
	return !slices.ContainsFunc(d.Inputs, func(in api.Input) bool { return !inDirsMayBe(in) })
}

// inputOf is the Input of a name.
func inputOf(d api.Def, name string) (api.Input, bool) {
	for _, in := range d.Inputs {
		if in.Name == name {
			return in, true
		}
	}
	return api.Input{}, false
}

// inDirsMayBe tells whether the directives of an Input, or an argument, may be.
func inDirsMayBe(in api.Input) bool {
	if !mayStand(in.Dirs, onComingIn()) {
		return false
	}
	for _, dir := range in.Dirs {
		ok := false
		switch name := in.Type.Name; dir.Name {
		case "range":
			ok = (name == "Int" || name == "Decimal" || name == "DateTime") && boundsRise(dir, name)
		case "length":
			ok = (isList(in.Type) || name == "String" || name == "ID" || name == "URL") && boundsRise(dir, "Int")
		case "pattern":
			ok = name == "String" || name == "ID"
		}
		if !ok {
			return false
		}
	}
	return true
}

// boundsRise tells whether min and max, of those told, are values of a scalar, and min is not above max.
func boundsRise(dir api.Dir, name string) bool {
	which, _ := scalar.Of(name)
	var bounds []api.Cell
	for _, bound := range []string{"min", "max"} {
		v, told := argument(dir, bound)
		if !told {
			continue
		}
		c, e := scalar.Read(which, v[0])
		if e != api.OK {
			return false
		}
		bounds = append(bounds, c)
	}
	if len(bounds) < 2 {
		return true
	}
	order, _ := scalar.Compare(which, bounds[0], bounds[1])
	return order <= 0
}
