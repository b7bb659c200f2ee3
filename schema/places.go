package schema

import (
	"slices"

	"provost/api"
)

// argRule tells what an argument of a directive may be, and whether it may be left out.
type argRule struct {
	name string
	may  func(v []api.Cell) bool
	free bool
}

// dirRule tells which arguments a directive has, and how many at least.
type dirRule struct {
	name  string
	args  []argRule
	least int
}

func isText(v []api.Cell) bool { return v[0].Kind == api.Text }

func isBound(v []api.Cell) bool { return v[0].Kind == api.Int || isText(v) }

func isLong(v []api.Cell) bool { return isLength(v[0]) }

func isMost(v []api.Cell) bool {
	return v[0].Kind == api.Int && v[0].Int >= 1 && v[0].Int <= api.MaxRows
}

func isOrder(v []api.Cell) bool {
	return v[0].Kind == api.Enum && slices.Contains([]string{"LT", "LE", "EQ", "NE", "GE", "GT"}, v[0].Text)
}

func isTexts(v []api.Cell) bool {
	return v[0].Kind == api.List && !slices.ContainsFunc(v[1:], func(c api.Cell) bool { return c.Kind != api.Text })
}

// onInput are the directives of an input.
func onInput() []dirRule {
	return []dirRule{{name: "oneOf"}, {name: "rule", args: []argRule{{"left", isText, false}, {"right", isText, false}, {"is", isOrder, false}}}}
}

// onComingIn are the directives of an Input, or an argument.
func onComingIn() []dirRule {
	return []dirRule{
		{"range", []argRule{{"min", isBound, true}, {"max", isBound, true}}, 1},
		{"length", []argRule{{"min", isLong, true}, {"max", isLong, true}}, 1},
		{"pattern", []argRule{{"is", isText, false}}, 1},
	}
}

// onRecord are the directives of a record.
func onRecord() []dirRule {
	return []dirRule{{name: "table", args: []argRule{{"most", isMost, false}, {"unique", isTexts, true}}}}
}

// onLink are the directives of a link.
func onLink() []dirRule {
	return []dirRule{{name: "link", args: []argRule{{"by", isText, false}}}}
}

// onRoot are the directives of a root's fields.
func onRoot(root string) []dirRule {
	of := argRule{"of", isText, false}
	if root == "Query" {
		return []dirRule{{name: "get", args: []argRule{of}}, {name: "list", args: []argRule{of}}}
	}
	return []dirRule{{name: "create", args: []argRule{of}}, {name: "update", args: []argRule{of, {"add", isTexts, true}}}, {name: "delete", args: []argRule{of}}}
}

// mayStand tells whether directives are such as a place has, each once, with their arguments.
func mayStand(dirs []api.Dir, place []dirRule) bool {
	met := map[string]struct{}{}
	for _, d := range dirs {
		at := slices.IndexFunc(place, func(r dirRule) bool { return r.name == d.Name })
		if _, twice := met[d.Name]; twice || at < 0 || !argsMayBe(d, place[at]) {
			return false
		}
		met[d.Name] = struct{}{}
	}
	return true
}

// argsMayBe tells whether a directive has its arguments, each once, and none else.
func argsMayBe(d api.Dir, r dirRule) bool {
	if len(d.Args) < r.least {
		return false
	}
	told := 0
	for _, rule := range r.args {
		v, is := argument(d, rule.name)
		if !is && !rule.free || is && !rule.may(v) {
			return false
		}
		if is {
			told++
		}
	}
	return told == len(d.Args)
}

// argument is the value of a directive's argument, if it is told.
func argument(d api.Dir, name string) ([]api.Cell, bool) {
	for _, a := range d.Args {
		if a.Name == name {
			return a.Value, true
		}
	}
	return nil, false
}

// directive is the directive of a name, if it stands there.
func directive(dirs []api.Dir, name string) (api.Dir, bool) {
	for _, d := range dirs {
		if d.Name == name {
			return d, true
		}
	}
	return api.Dir{}, false
}

// textOf is the Text of an argument that was looked at.
func textOf(d api.Dir, name string) string {
	if v, is := argument(d, name); is {
		return v[0].Text
	}
	return ""
}

// textsIn are the Texts of a List that was looked at; none, if it is not told.
func textsIn(d api.Dir, name string) []string {
	v, is := argument(d, name)
	if !is {
		return nil
	}
	return each(v[1:], func(c api.Cell) string { return c.Text })
}
