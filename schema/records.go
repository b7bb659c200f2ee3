package schema

import (
	"slices"

	"provost/api"
	"provost/kind"
	"provost/scalar"
)

// fieldOf is the field of a name.
func fieldOf(d api.Def, name string) (api.Field, bool) {
	for _, f := range d.Fields {
		if f.Name == name {
			return f, true
		}
	}
	return api.Field{}, false
}

// leafOf is the leaf of a name, of a record.
func leafOf(l []api.Def, d api.Def, name string) (api.Field, bool) {
	f, is := fieldOf(d, name)
	if !is || classOf(l, f.Type) == api.ClassType {
		return api.Field{}, false
	}
	return f, true
}

// recordMayBe tells whether a record's form may be.
func recordMayBe(l []api.Def, d api.Def) bool {
	table, is := directive(d.Dirs, "table")
	id, has := fieldOf(d, "id")
	if !is || !mayStand(d.Dirs, onRecord()) || !has || !isId(id.Type) {
		return false
	}
	for _, f := range d.Fields {
		if len(f.Args) > 0 || isRoot(f.Type.Name) && isType(l, f.Type.Name) {
			return false
		}
		if isType(l, f.Type.Name) && !linkMayBe(l, d, f) || !isType(l, f.Type.Name) && len(f.Dirs) > 0 {
			return false
		}
	}
	unique := textsIn(table, "unique")
	isNone := func(name string) bool {
		leaf, is := leafOf(l, d, name)
		return !is || isList(leaf.Type)
	}
	return !isRepeated(unique) && !slices.ContainsFunc(unique, isNone)
}

// isRepeated tells whether two of some names are one.
func isRepeated(names []string) bool {
	sorted := slices.Sorted(slices.Values(names))
	return len(slices.Compact(sorted)) < len(names)
}

// linkMayBe tells whether a link of a record may be.
func linkMayBe(l []api.Def, d api.Def, f api.Field) bool {
	link, is := directive(f.Dirs, "link")
	if !is || !mayStand(f.Dirs, onLink()) || isList(f.Type) {
		return false
	}
	by, is := leafOf(l, d, textOf(link, "by"))
	return is && by.Type.Name == "ID" && len(kind.Bare(by.Type).Wraps) == 0
}

// rootFieldMayBe tells whether a root's field may be.
func rootFieldMayBe(l []api.Def, root string, f api.Field) bool {
	if len(f.Dirs) != 1 || !mayStand(f.Dirs, onRoot(root)) {
		return false
	}
	dir := f.Dirs[0]
	of := textOf(dir, "of")
	if f.Type.Name != of || isRoot(of) || !isType(l, of) {
		return false
	}
	item, is := kind.Item(f.Type)
	if is != (dir.Name == "list") || is && isList(item) {
		return false
	}
	if slices.ContainsFunc(f.Args, func(in api.Input) bool { return !inDirsMayBe(in) }) {
		return false
	}
	_, at := kind.Class(l, of)
	return dataMayBe(l, l[at], dir, dataOf(l, f))
}

// dataOf are a root field's data: its arguments, and an input's Inputs in its place.
func dataOf(l []api.Def, f api.Field) []api.Input {
	var out []api.Input
	for _, in := range f.Args {
		class, at := kind.Class(l, in.Type.Name)
		if class != api.ClassInput || isList(in.Type) {
			out = append(out, in)
			continue
		}
		for _, within := range l[at].Inputs {
			if !isNon(in.Type) {
				within.Type = kind.Bare(within.Type)
			}
			out = append(out, within)
		}
	}
	return out
}

// dataMayBe tells whether data may be, of a record, by a directive.
func dataMayBe(l []api.Def, record api.Def, dir api.Dir, data []api.Input) bool {
	if isRepeated(each(data, inputName)) {
		return false
	}
	fits := fitOf(dir.Name)
	for _, in := range data {
		leaf, is := leafOf(l, record, in.Name)
		if !is || leaf.Type.Name != in.Type.Name || !fits(in.Type, leaf.Type) {
			return false
		}
	}
	has := func(is func(api.Input) bool) bool { return slices.ContainsFunc(data, is) }
	hasId := has(func(in api.Input) bool { return in.Name == "id" && isId(in.Type) })
	switch dir.Name {
	case "get", "delete":
		return hasId && len(data) == 1
	case "create":
		for _, f := range record.Fields {
			isTold := func(in api.Input) bool { return in.Name == f.Name && isNon(in.Type) }
			if isNon(f.Type) && !isType(l, f.Type.Name) && !has(isTold) {
				return false
			}
		}
	case "update":
		return hasId && addMayBe(textsIn(dir, "add"), data)
	}
	return true
}

// fitOf is how a datum's type has to fit its leaf's, by a directive.
func fitOf(dir string) func(from, leaf api.Ref) bool {
	switch dir {
	case "list":
		return func(from, leaf api.Ref) bool { return !isList(from) && !isList(leaf) }
	case "create":
		return kind.Fits
	case "update":
		return func(from, leaf api.Ref) bool { return kind.Fits(kind.Bare(from), kind.Bare(leaf)) }
	}
	return func(from, leaf api.Ref) bool { return true }
}

// addMayBe tells whether the names of what is added may be.
func addMayBe(add []string, data []api.Input) bool {
	for _, name := range add {
		isAdded := func(in api.Input) bool {
			return in.Name == name && !isList(in.Type) && (in.Type.Name == "Int" || in.Type.Name == "Decimal")
		}
		if !slices.ContainsFunc(data, isAdded) {
			return false
		}
	}
	return !isRepeated(add)
}

// isLength tells whether a cell is an Int that a length may be.
func isLength(c api.Cell) bool {
	_, e := scalar.Read(api.ScInt, c)
	return e == api.OK && c.Int >= 0
}
