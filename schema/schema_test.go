package schema

import (
	"slices"
	"strconv"
	"strings"
	"testing"

	"provost/api"
	"provost/least"
	"provost/pattern"
	"provost/sdl"
	"provost/subset"
)

func defs(t *testing.T, s string) []api.Def {
	t.Helper()
	l, line, column, e := sdl.Parse(s)
	if e != api.OK {
		t.Fatal(s, line, column, e)
	}
	return l
}

const (
	record = "type T @table(most: 2) { id: ID! n: Int } "
	query  = "type Query { t(id: ID!): T @get(of: \"T\") } "
	base   = record + query
	full   = `enum E { A B } input I @rule(left: "a", right: "b", is: LT) { a: Int b: Int @range(max: 9) } input O @oneOf { s: String @pattern(is: "a*") @length(min: 1) l: [Int!] @length(max: 3) @range(min: 0, max: 5) }
input C { id: ID! e: [E!] = [A] d: Decimal @range(min: "0.5", max: 7) u: ID s: String @pattern(is: "b+") }
input D { e: [E!] d: Decimal }
type U @table(most: 64, unique: []) { id: ID! t: T @link(by: "id") }
type T @table(most: 1, unique: ["s", "d"]) { id: ID! e: [E!] d: Decimal s: String u: ID k: U! @link(by: "u") w: DateTime x: Int! }
type Query { g(id: ID! @pattern(is: "b+")): T! @get(of: "T") l(d: Decimal, u: ID): [T!]! @list(of: "T") a: [U] @list(of: "U") }
type Mutation { c(in: C!, x: Int!): T @create(of: "T") u(in: D, id: ID!, x: Int): T @update(of: "T", add: ["d", "x"]) d(id: ID! @length(max: 2147483647)): T @delete(of: "T") v(id: ID!): U @create(of: "U") }`
)

func sub(s, old, new string) string {
	if !strings.Contains(s, old) {
		panic(old)
	}
	return strings.Replace(s, old, new, 1)
}

// P24.1: what is built.
func TestBuild(t *testing.T) {
	l := defs(t, base)
	s, at, e := Build(l)
	if e != api.OK || at != 0 || !sdl.Same(s.Defs, l) || len(s.Patterns) != 0 || Check(s) != api.OK {
		t.Error(s, at, e)
	}
	l = defs(t, full+" type X @table(most: 1) { id: ID! }")
	s, at, e = Build(l)
	if e != api.OK || at != 0 {
		t.Fatal(at, e)
	}
	if len(s.Patterns) != 2 || s.Patterns[0].Text != "a*" || s.Patterns[1].Text != "b+" || Check(s) != api.OK {
		t.Error(s.Patterns)
	}
	p, _ := pattern.Parse("b+")
	if d, _ := least.Compile(p); !subset.Same(d, s.Patterns[1].Dfa) {
		t.Error(s.Patterns[1])
	}
	again, _, e := Build(s.Defs)
	if e != api.OK || !Same(again, s) {
		t.Error(e)
	}
	slices.Reverse(l)
	other, _, e := Build(l)
	if e != api.OK || len(other.Patterns) != 2 || other.Patterns[0].Text != "b+" || Same(other, s) {
		t.Error(e)
	}
	p3 := defs(t, base+`enum E { A } input I { a: ID @pattern(is: "x") b: ID @pattern(is: "x") c: ID @pattern(is: "y") d: [Int] = [1, 2] }`)
	three, _, e := Build(p3)
	if e != api.OK || len(three.Patterns) != 2 || three.Patterns[1].Text != "y" {
		t.Error(three.Patterns, e)
	}
	p3[3].Inputs[3].Default[1].Int, p3[0].Dirs[0].Args[0].Value[0].Int, p3[2].Names[0] = 9, 9, "Z"
	if three.Defs[3].Inputs[3].Default[1].Int != 1 || three.Defs[2].Names[0] != "A" || three.Defs[0].Dirs[0].Args[0].Value[0].Int != 2 {
		t.Error("memory is shared")
	}
	l[0].Name, l[0].Fields[0].Type.Wraps[0], l[0].Dirs[0].Args[0].Value[0].Int = "Z", 9, 7
	if other.Defs[0].Name != "X" || Check(other) != api.OK {
		t.Error("memory is shared")
	}
}

// P24.1: each rule, and at which definition.
func TestRefused(t *testing.T) {
	many := func(n int, part func(int) string) string {
		var out strings.Builder
		for i := range n {
			out.WriteString(part(i))
		}
		return out.String()
	}
	enums := func(n int) string {
		return base + many(n, func(i int) string { return "enum E" + strconv.Itoa(i) + " { A } " })
	}
	names := func(n int) string {
		return base + "enum E { " + many(n, func(i int) string { return "A" + strconv.Itoa(i) + " " }) + "}"
	}
	leaves := func(n int) string {
		return query + "type T @table(most: 1) { id: ID! " + many(n-1, func(i int) string { return "a" + strconv.Itoa(i) + ": Int " }) + "}"
	}
	args := func(n int) string {
		return leaves(16) + "type Mutation { c(id: ID! " + many(n-1, func(i int) string { return "a" + strconv.Itoa(i) + ": Int " }) + "): T @create(of: \"T\") }"
	}
	for i, c := range []struct {
		s  string
		at int
		e  api.Errno
	}{
		{enums(30), 0, api.OK}, {enums(31), 32, api.ErrMany}, {names(16), 0, api.OK}, {names(17), 2, api.ErrMany}, {leaves(16), 0, api.OK}, {leaves(17), 1, api.ErrMany}, {args(16), 0, api.OK}, {args(17), 2, api.ErrMany}, {base + "input I { " + many(16, func(i int) string { return "a" + strconv.Itoa(i) + ": Int " }) + "}", 0, api.OK}, {base + "input I { " + many(17, func(i int) string { return "a" + strconv.Itoa(i) + ": Int " }) + "}", 2, api.ErrMany},
		{record + "type T @table(most: 1) { id: ID! }", 1, api.ErrTwice}, {base + "enum Int { A }", 2, api.ErrTwice}, {base + "enum __E { A }", 2, api.ErrTwice}, {base + "enum E { A B A }", 2, api.ErrTwice}, {base + "enum E { __A }", 2, api.ErrTwice}, {base + "input I { a: Int a: Int }", 2, api.ErrTwice}, {base + "input I { __a: Int }", 2, api.ErrTwice}, {sub(base, "n: Int", "id: Int"), 0, api.ErrTwice}, {sub(base, "n: Int", "__n: Int"), 0, api.ErrTwice}, {sub(base, "(id: ID!", "(id: ID! id: ID!"), 1, api.ErrTwice}, {sub(base, "(id: ID!", "(__id: ID!"), 1, api.ErrTwice}, {"enum Query { A } " + base, 2, api.ErrTwice},
		{record, 1, api.ErrNone}, {"enum Query { A }", 1, api.ErrNone}, {base + "input I { a: T }", 2, api.ErrNone}, {base + "input I { a: X }", 2, api.ErrNone}, {sub(base, "n: Int", "n: X"), 0, api.ErrNone}, {sub(base, "n: Int", "n: I") + "input I { a: Int }", 0, api.ErrNone}, {sub(base, "(id: ID!", "(id: ID! x: T"), 1, api.ErrNone}, {"type Query { x: Int }", 0, api.ErrSchema}, {"type Query { x: Y }", 0, api.ErrNone},
		{sub(base, "n: Int", "n: Int @x"), 0, api.ErrSchema}, {base + "enum E @x { A }", 2, api.ErrSchema}, {base + "input I @x { a: Int }", 2, api.ErrSchema}, {base + "input I @oneOf @oneOf { a: Int }", 2, api.ErrSchema}, {base + "input I @oneOf(a: 1) { a: Int }", 2, api.ErrSchema}, {base + "input I @oneOf { a: Int! }", 2, api.ErrSchema}, {base + "input I @oneOf { a: Int = 1 }", 2, api.ErrSchema}, {base + "input I @oneOf { a: Int }", 0, api.OK}, {base + "input I @table(most: 1) { a: Int }", 2, api.ErrSchema},
		{sub(base, "@table(most: 2)", ""), 0, api.ErrSchema}, {sub(base, "most: 2", "most: 0"), 0, api.ErrSchema}, {sub(base, "most: 2", "most: 65"), 0, api.ErrSchema}, {sub(base, "most: 2", "most: \"2\""), 0, api.ErrSchema}, {sub(base, "most: 2", "unique: []"), 0, api.ErrSchema}, {sub(base, "most: 2", "most: 2 unique: [\"n\", \"id\"]"), 0, api.OK}, {sub(base, "most: 2", "most: 2 unique: [\"n\", \"n\"]"), 0, api.ErrSchema}, {sub(base, "most: 2", "most: 2 unique: [\"m\"]"), 0, api.ErrSchema}, {sub(base, "most: 2", "most: 2 unique: \"n\""), 0, api.ErrSchema}, {sub(base, "most: 2", "most: 2 unique: [[\"n\"]]"), 0, api.ErrSchema}, {sub(base, "most: 2", "most: 2 unique: [1]"), 0, api.ErrSchema}, {sub(base, "most: 2", "most: 2 x: 1"), 0, api.ErrSchema}, {sub(base, "@table", "@oneOf @table"), 0, api.ErrSchema}, {sub(base, "n: Int", "n: [Int]"), 0, api.OK},
		{sub(sub(base, "n: Int", "n: [Int]"), "most: 2", "most: 2 unique: [\"n\"]"), 0, api.ErrSchema}, {sub(base, "id: ID! n", "id: ID n"), 0, api.ErrSchema}, {sub(base, "id: ID! n", "id: String! n"), 0, api.ErrSchema}, {sub(base, "id: ID! n", "id: [ID!]! n"), 0, api.ErrSchema}, {sub(base, "id: ID! n", "i: ID! n"), 0, api.ErrSchema}, {sub(base, "n: Int", "n(a: Int): Int"), 0, api.ErrSchema}, {sub(base, "n: Int", "n: Query"), 0, api.ErrSchema}, {sub(base, "n: Int", "n: Mutation") + "enum Mutation { A }", 0, api.OK},
		{sub(base, "n: Int", "n: T"), 0, api.ErrSchema}, {sub(base, "n: Int", "n: T @link(by: \"id\")"), 0, api.OK}, {sub(base, "n: Int", "n: T! @link(by: \"id\")"), 0, api.OK}, {sub(base, "n: Int", "n: [T] @link(by: \"id\")"), 0, api.ErrSchema}, {sub(base, "n: Int", "n: T @link(by: \"n\")"), 0, api.ErrSchema}, {sub(base, "n: Int", "n: Int m: T @link(by: \"n\")"), 0, api.ErrSchema}, {sub(base, "n: Int", "n: [ID] m: T @link(by: \"n\")"), 0, api.ErrSchema}, {sub(base, "n: Int", "n: T @link(by: id)"), 0, api.ErrSchema}, {sub(base, "n: Int", "n: T @link"), 0, api.ErrSchema}, {sub(base, "n: Int", "n: Int @link(by: \"id\")"), 0, api.ErrSchema},
		{sub(base, "Query", "Query @x"), 1, api.ErrSchema}, {sub(base, "@get(of: \"T\")", ""), 1, api.ErrSchema}, {sub(base, "@get(of: \"T\")", "@get(of: \"T\") @get(of: \"T\")"), 1, api.ErrSchema}, {sub(base, "@get", "@delete"), 1, api.ErrSchema}, {sub(base, "of: \"T\"", "of: \"U\""), 1, api.ErrSchema}, {sub(base, "of: \"T\"", "of: T"), 1, api.ErrSchema}, {sub(base, "of: \"T\"", "of: \"U\"") + "type U @table(most: 1) { id: ID! }", 1, api.ErrSchema}, {sub(base, "): T", "): [T]"), 1, api.ErrSchema}, {sub(base, "@get", "@list"), 1, api.ErrSchema}, {sub(base, "(id: ID!): T @get", ": [T] @list"), 0, api.OK}, {sub(base, "(id: ID!): T @get", ": [[T]] @list"), 1, api.ErrSchema}, {sub(base, "(id: ID!): T @get", ": T @get"), 1, api.ErrSchema}, {sub(base, "(id: ID!)", "(id: ID)"), 1, api.ErrSchema}, {sub(base, "(id: ID!)", "(n: Int)"), 1, api.ErrSchema}, {sub(base, "(id: ID!)", "(id: ID! n: Int)"), 1, api.ErrSchema}, {sub(base, "(id: ID!)", "(in: I!)") + "input I { id: ID! }", 0, api.OK}, {sub(base, "(id: ID!)", "(in: I)") + "input I { id: ID! }", 1, api.ErrSchema}, {sub(base, "(id: ID!)", "(id: ID! = 1)"), 0, api.OK}, {sub(base, ": T @get(of: \"T\")", ": Query @get(of: \"Query\")"), 1, api.ErrSchema},
		{base + "type Mutation { m(id: ID!): T @get(of: \"T\") }", 2, api.ErrSchema}, {base + "type Mutation { m(id: ID! n: Int): T @delete(of: \"T\") }", 2, api.ErrSchema}, {base + "type Mutation { m(id: ID!): T @delete(of: \"T\") }", 0, api.OK}, {base + "type Mutation { m(n: Int): T @create(of: \"T\") }", 2, api.ErrSchema}, {base + "type Mutation { m(id: ID): T @create(of: \"T\") }", 2, api.ErrSchema}, {base + "type Mutation { m(id: ID! n: [Int]): T @create(of: \"T\") }", 2, api.ErrSchema}, {base + "type Mutation { m(id: ID! n: Decimal): T @create(of: \"T\") }", 2, api.ErrSchema}, {base + "type Mutation { m(id: ID! n: Int!): T @create(of: \"T\") }", 0, api.OK}, {base + "type Mutation { m(id: ID! x: Int): T @create(of: \"T\") }", 2, api.ErrSchema}, {base + "type Mutation { m(in: I! id: ID!): T @create(of: \"T\") } input I { id: ID! }", 2, api.ErrSchema}, {base + "type Mutation { m(in: [I!]!): T @create(of: \"T\") } input I { id: ID! }", 2, api.ErrSchema}, {base + "type Mutation { m(in: I): T @create(of: \"T\") } input I { id: ID! }", 2, api.ErrSchema}, {base + "type Mutation { m(id: ID!): [T] @create(of: \"T\") }", 2, api.ErrSchema}, {sub(base, "n: Int", "n: Int!") + "type Mutation { m(id: ID!): T @create(of: \"T\") }", 2, api.ErrSchema}, {sub(base, "n: Int", "n: Int!") + "type Mutation { m(id: ID! n: Int = 1): T @create(of: \"T\") }", 2, api.ErrSchema},
		{base + "type Mutation { m(id: ID! n: Int!): T @update(of: \"T\") }", 0, api.OK}, {base + "type Mutation { m(n: Int): T @update(of: \"T\") }", 2, api.ErrSchema}, {base + "type Mutation { m(id: ID n: Int): T @update(of: \"T\") }", 2, api.ErrSchema}, {base + "type Mutation { m(id: ID! n: [Int]): T @update(of: \"T\") }", 2, api.ErrSchema}, {base + "type Mutation { m(id: ID! n: Int): T @update(of: \"T\" add: [\"n\"]) }", 0, api.OK}, {base + "type Mutation { m(id: ID! n: Int): T @update(of: \"T\" add: [\"n\" \"n\"]) }", 2, api.ErrSchema}, {base + "type Mutation { m(id: ID! n: Int): T @update(of: \"T\" add: [\"id\"]) }", 2, api.ErrSchema}, {base + "type Mutation { m(id: ID!): T @update(of: \"T\" add: [\"n\"]) }", 2, api.ErrSchema}, {base + "type Mutation { m(id: ID! n: Int): T @create(of: \"T\" add: [\"n\"]) }", 2, api.ErrSchema}, {sub(base, "n: Int", "n: [Int]") + "type Mutation { m(id: ID! n: [Int]): T @update(of: \"T\" add: [\"n\"]) }", 2, api.ErrSchema}, {sub(base, "n: Int", "n: [Int]") + "type Mutation { m(id: ID! n: [Int!]): T @update(of: \"T\") }", 0, api.OK}, {sub(base, "n: Int", "n: [Int!]") + "type Mutation { m(id: ID! n: [Int]): T @update(of: \"T\") }", 2, api.ErrSchema}, {sub(base, "n: Int", "n: [Int]") + "type Query2 @table(most: 1) { id: ID! }", 0, api.OK}, {sub(sub(base, "n: Int", "n: [Int]"), "(id: ID!): T @get", "(n: [Int]): [T] @list"), 1, api.ErrSchema}, {sub(sub(base, "n: Int", "n: [Int]"), "(id: ID!): T @get", "(n: Int): [T] @list"), 1, api.ErrSchema},
		{base + "input I { a: Int = \"x\" }", 2, api.ErrCoerce}, {base + "input I { a: Int! = null }", 2, api.ErrCoerce}, {base + "input I { a: E = B } enum E { A }", 2, api.ErrCoerce}, {base + "input I { a: I = {} b: Int = true }", 2, api.ErrCoerce}, {base + "input I { a: I = {} }", 2, api.ErrCoerce}, {base + "input I { a: I = null b: [Int] = 3 }", 0, api.OK}, {sub(base, "(id: ID!)", "(id: ID! = \"\")"), 1, api.ErrCoerce},
		{sub(base, "(id: ID!", "(id: ID! @pattern(is: \"(\")"), 1, api.ErrRegex}, {sub(base, "(id: ID!", "(id: ID! @pattern(is: \"(a{16}){16}\")"), 1, api.ErrStates}, {sub(base, "(id: ID!", "(id: ID! @pattern(is: \"(a|b)*a(a|b){5}\")"), 1, api.ErrStates}, {base + "input I { a: Int @pattern(is: \"(\") }", 2, api.ErrSchema}, {base + "input I { a: ID @pattern(is: \"(\") } enum X { A A }", 3, api.ErrTwice},
	} {
		s, at, e := Build(defs(t, c.s))
		if at != c.at || e != c.e || e != api.OK && (s.Defs != nil || s.Patterns != nil) {
			t.Error(i, c.s, at, int(e))
		}
		if e != api.OK && e != api.ErrRegex && e != api.ErrStates && Check(api.Schema{Defs: defs(t, c.s)}) != api.ErrBad {
			t.Error(i, c.s)
		}
	}
	if s, at, e := Build(nil); s.Defs != nil || at != 0 || e != api.ErrBad {
		t.Error(at, e)
	}
}

// Directives of what comes in.
func TestDirs(t *testing.T) {
	for in, want := range map[string]api.Errno{
		"a: Int @range(min: 0)": api.OK, "a: [[Int!]] @range(min: 0, max: 0)": api.OK, "a: Int @range": api.ErrSchema, "a: Int @range(min: 1, max: 0)": api.ErrSchema, "a: Int @range(min: \"1\")": api.ErrSchema, "a: Int @range(min: 2147483648)": api.ErrSchema, "a: Int @range(min: true)": api.ErrSchema, "a: Int @range(min: null)": api.ErrSchema, "a: Int @range(min: 0, x: 1)": api.ErrSchema, "a: String @range(min: \"a\")": api.ErrSchema, "a: ID @range(min: 1)": api.ErrSchema, "a: Decimal @range(min: 1, max: \"1.0\")": api.OK, "a: Decimal @range(min: 1, max: \"0.99\")": api.ErrSchema, "a: Decimal @range(max: \"x\")": api.ErrSchema,
		"a: DateTime @range(min: \"2000-01-01T00:00:00Z\", max: \"2000-01-01T00:00:00-00:01\")": api.OK, "a: DateTime @range(max: 1)": api.ErrSchema, "a: Int @range(min: 0) @range(max: 1)": api.ErrSchema, "a: I @range(min: 0)": api.ErrSchema,
		"a: [Int] @length(min: 0, max: 2147483647)": api.OK, "a: String @length(max: 0)": api.OK, "a: ID! @length(min: 1)": api.OK, "a: URL @length(min: 1)": api.OK, "a: [I!] @length(min: 1)": api.OK, "a: Int @length(min: 1)": api.ErrSchema, "a: String @length": api.ErrSchema, "a: String @length(min: -1)": api.ErrSchema, "a: String @length(max: 2147483648)": api.ErrSchema, "a: String @length(min: \"1\")": api.ErrSchema, "a: String @length(min: 2, max: 1)": api.ErrSchema, "a: UUID @length(min: 1)": api.ErrSchema,
		"a: String @pattern(is: \"\")": api.OK, "a: [ID] @pattern(is: \"a\")": api.OK, "a: String @pattern": api.ErrSchema, "a: String @pattern(is: A)": api.ErrSchema, "a: String @pattern(is: \"a\", x: 1)": api.ErrSchema, "a: URL @pattern(is: \"a\")": api.ErrSchema, "a: Int @oneOf": api.ErrSchema, "a: Int @get(of: \"T\")": api.ErrSchema,
	} {
		if _, at, e := Build(defs(t, base+"input I { "+in+" }")); e != want || e != api.OK && at != 2 {
			t.Error(in, at, int(e))
		}
		// An argument's are such as an Input's.
		if arg, is := strings.CutPrefix(in, "a: Int "); is {
			if _, at, e := Build(defs(t, base+"type Mutation { m(id: ID!, n: Int "+arg+"): T @create(of: \"T\") }")); e != want || e != api.OK && at != 2 {
				t.Error(arg, at, int(e))
			}
		}
	}
	for rule, want := range map[string]api.Errno{
		"left: \"a\", right: \"b\", is: LT": api.OK, "left: \"a\", right: \"a\", is: GT": api.OK, "left: \"a\", right: \"c\", is: LT": api.ErrSchema, "left: \"a\", right: \"x\", is: LT": api.ErrSchema, "left: \"x\", right: \"a\", is: LT": api.ErrSchema, "left: \"a\", right: \"d\", is: LT": api.ErrSchema, "left: \"d\", right: \"a\", is: LT": api.ErrSchema, "left: \"d\", right: \"d\", is: LT": api.ErrSchema, "left: \"e\", right: \"e\", is: LT": api.ErrSchema, "left: \"a\", right: \"b\", is: XX": api.ErrSchema, "left: \"a\", right: \"b\", is: \"LT\"": api.ErrSchema, "left: \"a\", right: \"b\"": api.ErrSchema, "left: a, right: \"b\", is: LT": api.ErrSchema, "left: \"f\", right: \"f\", is: LT": api.ErrSchema, "left: \"a\", right: \"b\", is: NE, x: 1": api.ErrSchema,
	} {
		if _, _, e := Build(defs(t, base+"input I @rule("+rule+") { a: Int b: Int! = 1 c: ID d: [Int] e: Boolean f: I }")); e != want {
			t.Error(rule, int(e))
		}
	}
}

// P24.2: a schema's patterns are just those that are told.
func TestCheck(t *testing.T) {
	fresh := func() api.Schema {
		s, _, e := Build(defs(t, full))
		if e != api.OK {
			t.Fatal(e)
		}
		return s
	}
	for i, turn := range []func(s *api.Schema){func(s *api.Schema) { s.Patterns = s.Patterns[:1] }, func(s *api.Schema) { s.Patterns = append(s.Patterns, s.Patterns[0]) }, func(s *api.Schema) { s.Patterns[0].Text = "c" }, func(s *api.Schema) { slices.Reverse(s.Patterns) }, func(s *api.Schema) { s.Patterns[1].Dfa = api.Dfa{} }, func(s *api.Schema) { s.Defs = nil }, func(s *api.Schema) { s.Defs[0].Dirs = []api.Dir{{Name: "x"}} }} {
		s := fresh()
		turn(&s)
		if Check(s) != api.ErrBad || Same(s, fresh()) {
			t.Error(i)
		}
	}
	s := fresh()
	s.Patterns[0].Dfa = s.Patterns[1].Dfa
	if Check(s) != api.OK || Same(s, fresh()) || !Same(fresh(), fresh()) || !Same(api.Schema{}, api.Schema{Defs: []api.Def{}}) {
		t.Error("whatever it accepts")
	}
}
