package bound

import (
	"strconv"
	"strings"
	"testing"

	"provost/api"
	"provost/lex"
	"provost/lit"
	"provost/schema"
	"provost/sdl"
)

const inputs = `enum E { A B }
input I @rule(left: "a", right: "b", is: LT) { a: Int @range(min: 0) b: Int! = 7 i: I }
input O @oneOf { x: Int y: [O!] @length(min: 1 max: 2) }
input P @oneOf @rule(left: "a", right: "a", is: NE) { a: ID @pattern(is: "b*") c: String }
input In { s: String @pattern(is: "x*") @length(min: 1, max: 2) d: Decimal @range(min: 1, max: "2.5") w: DateTime @range(max: "2000-01-01T00:00:00Z") l: [[Int]] @length(max: 2) @range(min: 1, max: 3) u: URL @length(min: 5) r: [ID!] @pattern(is: "(ab)*") e: E }
`

// build is a schema with all these inputs and their patterns.
func build(t *testing.T) api.Schema {
	t.Helper()
	l, _, _, e := sdl.Parse(inputs + "type T @table(most: 1) { id: ID! } type Query { f(id: ID!): T @get(of: \"T\") }")
	if e != api.OK {
		t.Fatal(e)
	}
	s, at, e := schema.Build(l)
	if e != api.OK {
		t.Fatal(at, e)
	}
	return s
}

func value(t *testing.T, s string) []api.Cell {
	t.Helper()
	l, _, _ := lex.Lex(s)
	v, _, e := lit.Value(l, 0, false)
	if e != api.OK {
		t.Fatal(s, e)
	}
	return v
}

// tell is what is broken as a text.
func tell(l []api.Broken) string {
	var out []string
	for _, b := range l {
		var path []string
		for _, s := range b.Path {
			if s.Name == "" {
				path = append(path, strconv.Itoa(s.At))
			} else {
				path = append(path, s.Name)
			}
		}
		out = append(out, strings.Join(path, ".")+" "+b.Dir+" "+b.Code)
	}
	return strings.Join(out, "; ")
}

// look is what a value breaks, of an argument of some type and directives.
func look(t *testing.T, in, v string) string {
	t.Helper()
	s := build(t)
	l, _, _, e := sdl.Parse("input X { a: " + in + " }")
	if e != api.OK {
		t.Fatal(in, e)
	}
	w := &walker{s: s, v: value(t, "{a: "+v+"}")}
	w.members(0, l[0].Inputs, nil)
	return tell(w.out)
}

// P26.1: each constraint.
func TestConstraints(t *testing.T) {
	for _, c := range []struct{ in, v, want string }{
		{"Int @range(min: 1, max: 3)", "2", ""}, {"Int @range(min: 1, max: 3)", "0", "a range RANGE"}, {"Int @range(min: 1, max: 3)", "1", ""}, {"Int @range(min: 1, max: 3)", "3", ""}, {"Int @range(min: 1, max: 3)", "4", "a range RANGE"}, {"Int @range(min: 1)", "null", ""}, {"[[Int]] @range(max: 1)", "[[1 2 null] null [3]]", "a.0.1 range RANGE; a.2.0 range RANGE"}, {"Decimal @range(min: \"0.5\", max: 7)", "\"7.01\"", "a range RANGE"}, {"Decimal @range(min: \"0.5\", max: 7)", "\"0.5\"", ""},
		{"DateTime @range(min: \"2000-01-01T00:00:00+01:00\")", "\"1999-12-31T23:00:00Z\"", ""}, {"DateTime @range(min: \"2000-01-01T00:00:00+01:00\")", "\"1999-12-31T22:59:59Z\"", "a range RANGE"},
		{"String @length(min: 1, max: 2)", "\"\"", "a length LENGTH"}, {"String @length(min: 1, max: 2)", "\"\u20ac\U0001f600\"", ""}, {"String @length(min: 1, max: 2)", "\"abc\"", "a length LENGTH"}, {"String @length(min: 1)", "\"a\"", ""}, {"[Int] @length(min: 2, max: 2)", "[1 2]", ""}, {"[[Int]] @length(max: 1)", "[[1 2 3]]", ""}, {"[[Int]] @length(max: 1)", "[null null]", "a length LENGTH"}, {"[Int] @length(min: 1)", "[]", "a length LENGTH"}, {"[Int] @length(min: 1)", "null", ""}, {"URL @length(max: 5)", "\"a://bc\"", "a length LENGTH"},
		{"String @pattern(is: \"x*\")", "\"xx\"", ""}, {"String @pattern(is: \"x*\")", "\"xy\"", "a pattern PATTERN"}, {"[String] @pattern(is: \"x*\")", "[\"a\" \"x\" null \"b\"]", "a.0 pattern PATTERN; a.3 pattern PATTERN"}, {"String @pattern(is: \"x*\")", "\"" + strings.Repeat("x", 1024) + "\"", ""}, {"String @pattern(is: \"x*\")", "\"" + strings.Repeat("x", 1025) + "\"", "a pattern PATTERN"},
		{"[String!] @length(max: 1) @pattern(is: \"x*\")", "[\"a\" \"x\" \"b\"]", "a length LENGTH; a.0 pattern PATTERN; a.2 pattern PATTERN"}, {"[String!] @pattern(is: \"x*\") @length(max: 1)", "[\"a\" \"x\"]", "a.0 pattern PATTERN; a length LENGTH"},
		{"I", "{a:1 b:2}", ""}, {"I", "{a:2 b:2}", "a rule RULE"}, {"I", "{a:-1 b:-2}", "a rule RULE; a.a range RANGE"}, {"I", "{a:null b:2}", ""}, {"I", "{b:2}", ""}, {"I", "{b:1 i:{a:5 b:4 i:{a:-1 b:0}}}", "a.i rule RULE; a.i.i.a range RANGE"}, {"[I!] @length(max: 1)", "[{a:1 b:0} {b:1}]", "a length LENGTH; a.0 rule RULE"},
		{"O", "{x:1}", ""}, {"O", "{}", "a oneOf ONE_OF"}, {"O", "{x:null}", "a oneOf ONE_OF"}, {"O", "{x:1 y:null}", "a oneOf ONE_OF"}, {"O", "{y:[{x:1} {} {y:[]}]}", "a.y length LENGTH; a.y.1 oneOf ONE_OF; a.y.2.y length LENGTH"}, {"P", "{a:\"a\" c:\"b\"}", "a oneOf ONE_OF; a rule RULE; a.a pattern PATTERN"}, {"P", "null", ""},
	} {
		if got := look(t, c.in, c.v); got != c.want {
			t.Errorf("%s of %.30s: %s", c.in, c.v, got)
		}
	}
	for is, want := range map[string]string{"LT": "100", "LE": "110", "EQ": "010", "NE": "101", "GE": "011", "GT": "001"} {
		for order := -1; order <= 1; order++ {
			if holds(is, order) != (want[order+1] == '1') {
				t.Error(is, order)
			}
		}
	}
}

const whole = `input N { id: ID! @pattern(is: "a+") n: Int @range(min: 0) }
type T @table(most: 1) { id: ID! n: Int l: [String!] }
type Query { f(n: Int @range(min: 1, max: 3)): [T] @list(of: "T") a: [T] @list(of: "T") }
type Mutation { m(in: N!, l: [String!] @length(max: 1) @pattern(is: "x*")): T @create(of: "T") u(id: ID!, n: Int = 3, l: [String!]): T @update(of: "T") }`

// P26.1: arguments of a schema's fields.
func TestBroken(t *testing.T) {
	l, _, _, _ := sdl.Parse(whole)
	s, _, e := schema.Build(l)
	if e != api.OK {
		t.Fatal(e)
	}
	for _, c := range []struct {
		kind        uint8
		field, args string
		want        string
		e           api.Errno
	}{
		{1, "f", "{n: 2}", "", api.OK}, {1, "f", "{}", "", api.OK}, {1, "f", "{n: 0}", "n range RANGE", api.OK}, {1, "a", "{}", "", api.OK}, {1, "a", "{n: 1}", "", api.ErrBad}, {1, "a", "[]", "", api.ErrBad}, {1, "x", "{}", "", api.ErrNone}, {2, "f", "{}", "", api.ErrNone}, {0, "f", "{}", "", api.ErrNone}, {3, "m", "{}", "", api.ErrNone}, {1, "f", "{n: \"1\"}", "", api.ErrBad}, {1, "f", "{n: $x}", "", api.ErrBad}, {1, "f", "null", "", api.ErrBad}, {1, "f", "1", "", api.ErrBad}, {1, "f", "{n: 1 x: 1}", "", api.ErrBad},
		{2, "m", "{in: {id: \"b\" n: -1} l: [\"a\" \"x\" \"b\"]}", "in.id pattern PATTERN; in.n range RANGE; l length LENGTH; l.0 pattern PATTERN; l.2 pattern PATTERN", api.OK}, {2, "m", "{l: [] in: {id: \"a\"}}", "", api.ErrBad}, {2, "m", "{l: []}", "", api.ErrBad}, {2, "m", "{in: {id: 1}}", "", api.ErrBad}, {2, "m", "{in: {id: \"a\"}}", "", api.OK}, {2, "u", "{id: \"a\"}", "", api.OK},
	} {
		args := value(t, c.args)
		got, e := Broken(s, c.kind, c.field, args)
		if tell(got) != c.want || e != c.e || e != api.OK && got != nil {
			t.Error(c, tell(got), int(e))
		}
		if e := Check(s, c.kind, c.field, args); e != c.e {
			t.Error(c, int(e))
		}
	}
	for _, args := range [][]api.Cell{nil, {{Kind: api.Object, Many: 1}}, {{Kind: api.Object}, {}}, {{Kind: api.Object, Name: "a"}}} {
		for _, field := range []string{"a", "f"} {
			if got, e := Broken(s, 1, field, args); got != nil || e != api.ErrBad {
				t.Error(field, args, e)
			}
		}
	}
	if got, e := Broken(api.Schema{}, 1, "x", nil); got != nil || e != api.ErrBad {
		t.Error(got, e)
	}
	both, _ := Broken(s, 2, "m", value(t, "{in: {id: \"b\" n: -1} l: [\"a\" \"x\" \"b\"]}"))
	one, _ := Broken(s, 2, "m", value(t, "{in: {id: \"b\" n: -1}}"))
	if !Same(one, both[:2]) || Same(one, both) || Same(one, both[1:3]) || !Same(nil, []api.Broken{}) {
		t.Error("same")
	}
	both[0].Path[0].Name = "spoilt"
	if both[1].Path[0].Name != "in" {
		t.Error("memory is shared")
	}
	if Same(one, []api.Broken{one[0], {Path: one[1].Path, Dir: one[1].Dir, Code: "X"}}) {
		t.Error("same")
	}
}

// P26.2: what is handed in is only read, behind its end, too.
func TestOnlyRead(t *testing.T) {
	l, _, _, _ := sdl.Parse(whole)
	s, _, _ := schema.Build(l)
	s.Defs = append(make([]api.Def, 0, len(s.Defs)+4), s.Defs...)
	if _, e := Broken(s, 1, "f", value(t, "{n: 2}")); e != api.OK {
		t.Fatal(e)
	}
	if behind := s.Defs[:len(s.Defs)+1]; behind[len(s.Defs)].Name != "" {
		t.Error("changed")
	}
}
