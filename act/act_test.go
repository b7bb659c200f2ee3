package act

import (
	"strconv"
	"strings"
	"testing"

	"provost/api"
	"provost/bound"
	"provost/cell"
	"provost/doc"
	"provost/lex"
	"provost/lit"
	"provost/pick"
	"provost/schema"
	"provost/sdl"
	"provost/undo"
)

const base = `type T @table(most: 2) { id: ID! n: Int } type Query { t(id: ID!): T @get(of: "T") } type Mutation { m(id: ID!, n: Int): T @create(of: "T") }`

const wide = `enum E { A B } input I { n: Int e: E x: Decimal! = 1 } input J { n: Int e: E }
type T @table(most: 3, unique: ["n"]) { id: ID! n: Int e: E x: Decimal! l: [Int!] u: ID s: S @link(by: "u") must: S! @link(by: "u") }
type S @table(most: 2) { id: ID! t: ID up: T @link(by: "t") }
type Query { t(id: ID!): T @get(of: "T") need(id: ID!): T! @get(of: "T") all(e: E, n: Int): [T] @list(of: "T") each: [T!]! @list(of: "T") some: [T!] @list(of: "T") s(id: ID!): S @get(of: "S") }
type Mutation { c(id: ID!, in: I!, l: [Int!], u: ID): T @create(of: "T") w(id: ID!, in: J): T @update(of: "T", add: ["n"]) v(id: ID!, n: Int, l: [Int!], x: Decimal, u: ID): T @update(of: "T", add: ["n"]) d(id: ID!): T @delete(of: "T") must(id: ID!): T! @delete(of: "T") k(id: ID!, t: ID): S @create(of: "S") a(id: ID!, x: Decimal, e: E): T @update(of: "T", add: ["x"]) }`

func build(t *testing.T, s string) (api.Schema, api.Store) {
	t.Helper()
	l, _, _, e := sdl.Parse(s)
	if e != api.OK {
		t.Fatal(e)
	}
	x, at, e := schema.Build(l)
	if e != api.OK {
		t.Fatal(at, e)
	}
	st, e := undo.New(x)
	if e != api.OK {
		t.Fatal(e)
	}
	return x, st
}

func plan(t *testing.T, s string) (uint8, []api.Pick) {
	t.Helper()
	d, _, _, e := doc.Parse(s)
	if e != api.OK {
		t.Fatal(s, e)
	}
	p, e := pick.Plan(d, 0, nil)
	if e != api.OK {
		t.Fatal(s, e)
	}
	return d.Ops[0].Kind, p
}

func value(t *testing.T, s string) []api.Cell {
	t.Helper()
	l, _, _ := lex.Lex(s)
	v, _, e := lit.Value(l, 0, false)
	if e != api.OK {
		t.Fatal(s, e)
	}
	return v
}

// show is cells as a text, and errors.
func show(v []api.Cell) string {
	var one func(at int) (string, int)
	one = func(at int) (string, int) {
		c := v[at]
		at++
		var kids []string
		for range c.Many {
			name := v[at].Name
			s, next := one(at)
			if name != "" {
				s = name + ":" + s
			}
			kids = append(kids, s)
			at = next
		}
		switch c.Kind {
		case api.List:
			return "[" + strings.Join(kids, " ") + "]", at
		case api.Object:
			return "{" + strings.Join(kids, " ") + "}", at
		case api.Null:
			return "null", at
		case api.Int:
			return strconv.FormatInt(c.Int, 10), at
		}
		return c.Text, at
	}
	s, end := one(0)
	if end != len(v) {
		return s + " and more"
	}
	return s
}

func showFaults(l []api.Fault) string {
	var out []string
	for _, f := range l {
		s := f.Code
		for _, p := range f.Path {
			if p.Name == "" {
				s += "." + strconv.Itoa(p.At)
			} else {
				s += "." + p.Name
			}
		}
		out = append(out, s)
	}
	return strings.Join(out, " ")
}

// run executes a document, and holds what comes of it.
func run(t *testing.T, s api.Schema, st api.Store, text, data, faults string) api.Store {
	t.Helper()
	kind, p := plan(t, text)
	args, path, e := Values(s, kind, p, nil)
	if e != api.OK {
		t.Fatal(text, path, e)
	}
	was := undo.Twin(st)
	got, fs, calls, out, e := Run(s, st, kind, p, args)
	if e != api.OK || show(got) != data || showFaults(fs) != faults {
		t.Errorf("%s\n %s\n %s %v", text, show(got), showFaults(fs), e)
	}
	if Check(s, out) != api.OK || len(out.Log) != 0 || !undo.Same(st, was) || kind == api.OpQuery && !undo.Alike(out, st) {
		t.Error(text, "store")
	}
	n := 0
	for _, c := range calls {
		if b, e := bound.Broken(s, kind, c.Field, c.Args); e != api.OK || len(b) != 0 {
			t.Error(text, c)
		}
		for n < len(args)-1 && !cell.Same(args[n], c.Args) {
			n++
		}
		if !cell.Same(args[n], c.Args) {
			t.Error(text, c)
		}
	}
	return out
}

// P30.3: the examples.
func TestExamples(t *testing.T) {
	s, st := build(t, base)
	run(t, s, st, "mutation { m(id: 1, n: 2) { id n } }", "{m:{id:1 n:2}}", "")
	two := run(t, s, st, "mutation { a: m(id: 1, n: 2) { id n } b: m(id: 1, n: 2) { id n } }", "{a:{id:1 n:2} b:null}", "DUPLICATE.b")
	run(t, s, st, "{ t(id: 9) { id } }", "{t:null}", "")
	run(t, s, two, "{ __typename t(id: 1) { n } }", "{__typename:Query t:{n:2}}", "")
	run(t, s, two, "{ t(id: 1) { n x: __typename } __typename }", "{t:{n:2 x:T} __typename:Query}", "")
	if two.Tables[0].Rows[0].Data[2].Int != 2 {
		t.Error(two)
	}
}

// P30.3: verbs.
func TestVerbs(t *testing.T) {
	s, st := build(t, wide)
	st = run(t, s, st, "mutation { c(id: 1, in: {n: 5, e: A}, l: [1, 2]) { id n e x l u } }", "{c:{id:1 n:5 e:A x:1 l:[1 2] u:null}}", "")
	st = run(t, s, st, "mutation { c(id: 2, in: {x: \"2.50\"}) { x l n } }", "{c:{x:2.5 l:null n:null}}", "")
	run(t, s, st, "mutation { a: c(id: 3, in: {n: 5}) { id } b: c(id: 3, in: {n: 6}) { id } c: c(id: 4, in: {n: 7}) { id } d: c(id: 4, in: {n: 6}) { id } }", "{a:null b:{id:3} c:null d:null}", "DUPLICATE.a TABLE_FULL.c DUPLICATE.d")
	run(t, s, st, "{ all { id } }", "{all:[{id:1} {id:2}]}", "")
	run(t, s, st, "{ all(e: A) { id } a: all(e: B) { id } b: all(e: null, n: 5) { id } c: all(n: 5, e: B) { id } }", "{all:[{id:1}] a:[] b:[{id:1}] c:[]}", "")
	next := run(t, s, st, "mutation { v(id: 1, n: 2) { n l } a: v(id: 1, n: null, l: null) { n l } b: v(id: 9) { n } c: v(id: 2, n: 1) { n } d: v(id: 1, x: null) { x } e: v(id: 1, n: 2147483647) { n } f: w(id: 1, in: {e: B}) { n e x } }", "{v:{n:7 l:[1 2]} a:{n:7 l:null} b:null c:null d:null e:null f:{n:7 e:B x:1}}", "NO_RECORD.b NULL_VALUE.c NULL_VALUE.d OVERFLOW.e")
	run(t, s, next, "mutation { a(id: 1, x: \"0.5\", e: null) { x e } }", "{a:{x:1.5 e:null}}", "")
	run(t, s, next, "mutation { a(id: 1, e: A, x: \"9223372036854775807\") { x } }", "{a:null}", "OVERFLOW.a")
	run(t, s, next, "mutation { w(id: 2, in: {n: 7}) { n } }", "{w:null}", "NULL_VALUE.w")
	run(t, s, st, "mutation { a: d(id: 1) { id n } b: d(id: 1) { id } __typename }", "{a:{id:1 n:5} b:null __typename:Mutation}", "NO_RECORD.b")
	run(t, s, st, "mutation { must(id: 7) { id } d(id: 1) { id } }", "null", "NO_RECORD.must")
	gone := run(t, s, st, "mutation { must(id: 7) { id } d(id: 1) { id } }", "null", "NO_RECORD.must")
	if len(gone.Tables[0].Rows) != 1 {
		t.Error("a later field was not done")
	}
}

// P30.3: links, and where null goes.
func TestLinks(t *testing.T) {
	s, st := build(t, wide)
	st = run(t, s, st, "mutation { k(id: 7, t: 1) { id up { id } } a: c(id: 1, in: {}, u: 7) { id s { id up { s { t } } } } b: c(id: 2, in: {}, u: 8) { id s { id } } c: c(id: 3, in: {}) { s { id } } }", "{k:{id:7 up:null} a:{id:1 s:{id:7 up:{s:{t:1}}}} b:{id:2 s:null} c:{s:null}}", "")
	run(t, s, st, "{ t(id: 1) { must { id } } }", "{t:{must:{id:7}}}", "")
	run(t, s, st, "{ t(id: 2) { id must { id } } a: t(id: 3) { must { id } s { id } } }", "{t:null a:null}", "NO_LINK.t.must NO_LINK.a.must")
	run(t, s, st, "{ need(id: 2) { must { id } } t(id: 2) { x: must { id } } }", "null", "NO_LINK.need.must NO_LINK.t.x")
	run(t, s, st, "{ need(id: 9) { id } __typename }", "null", "NO_RECORD.need")
	run(t, s, st, "{ all { id must { id } } }", "{all:[{id:1 must:{id:7}} null null]}", "NO_LINK.all.1.must NO_LINK.all.2.must")
	run(t, s, st, "{ some { must { id } } t(id: 1) { id } }", "{some:null t:{id:1}}", "NO_LINK.some.1.must NO_LINK.some.2.must")
	run(t, s, st, "{ each { must { id } } t(id: 1) { id } }", "null", "NO_LINK.each.1.must NO_LINK.each.2.must")
	run(t, s, st, "{ s(id: 7) { up { must { up { a: must { id } b: __typename } } } } }", "{s:{up:{must:{up:{a:{id:7} b:T}}}}}", "")
	run(t, s, st, "mutation { d(id: 1) { s { up { id } } } }", "{d:{s:{up:null}}}", "")
	run(t, s, st, "{ t(id: 2) { a: must { id } b: must { id } } }", "{t:null}", "NO_LINK.t.a NO_LINK.t.b")
}

// P30.3, V6: each that fails adds its error, where something beside it has failed ahead, too.
func TestEachFails(t *testing.T) {
	s, st := build(t, `type A @table(most: 4) { id: ID! b: ID must: B! @link(by: "b") may: B @link(by: "b") } type B @table(most: 4) { id: ID! a: ID back: A! @link(by: "a") }
type Query { a(id: ID!): A @get(of: "A") need(id: ID!): A! @get(of: "A") some: [A] @list(of: "A") all: [A!] @list(of: "A") each: [A!]! @list(of: "A") }
type Mutation { c(id: ID!, b: ID): A @create(of: "A") k(id: ID!, a: ID): B @create(of: "B") d(id: ID!): A! @delete(of: "A") }`)
	st = run(t, s, st, "mutation { x: c(id: 1, b: 1) { id } y: c(id: 2, b: 9) { id } k(id: 1, a: 9) { id } }", "{x:{id:1} y:{id:2} k:{id:1}}", "")
	run(t, s, st, "{ a(id: 2) { x: must { id } id may { id } y: must { id } z: must { back { id } } } }", "{a:null}", "NO_LINK.a.x NO_LINK.a.y NO_LINK.a.z")
	run(t, s, st, "{ some { x: must { p: back { id } id q: back { id } } y: must { id } } }", "{some:[null null]}", "NO_LINK.some.0.x.p NO_LINK.some.0.x.q NO_LINK.some.1.x NO_LINK.some.1.y")
	run(t, s, st, "{ some { id x: may { p: back { id } q: back { must { id } } } y: may { id } } }", "{some:[{id:1 x:null y:{id:1}} {id:2 x:null y:null}]}", "NO_LINK.some.0.x.p NO_LINK.some.0.x.q")
	run(t, s, st, "{ all { x: may { back { id } } y: must { id } } a(id: 1) { id } }", "{all:null a:{id:1}}", "NO_LINK.all.0.x.back NO_LINK.all.1.y")
	run(t, s, st, "{ each { a: must { back { id } } id b: must { back { id } } } a(id: 2) { id } b: need(id: 2) { must { id } } c: need(id: 7) { id } d: a(id: 7) { id } }", "null", "NO_LINK.each.0.a.back NO_LINK.each.0.b.back NO_LINK.each.1.a NO_LINK.each.1.b NO_LINK.b.must NO_RECORD.c")
	// What is done stands, whatever fails of its completion.
	end := run(t, s, st, "mutation { c(id: 3) { x: must { id } y: must { id } } again: c(id: 3) { id } }", "{c:null again:null}", "NO_LINK.c.x NO_LINK.c.y DUPLICATE.again")
	run(t, s, end, "mutation { d(id: 1) { x: must { back { id } } y: must { back { id } } } a: d(id: 1) { id } b: c(id: 3) { id } c: d(id: 3) { id } }", "null", "NO_LINK.d.x.back NO_LINK.d.y.back NO_RECORD.a DUPLICATE.b")
}

// As many errors as a plan and a list may bring, each by its own path.
func TestManyFail(t *testing.T) {
	s, st := build(t, `type T @table(most: 64) { id: ID! no: ID to: T! @link(by: "no") } type Query { all: [T!]! @list(of: "T") some: [T] @list(of: "T") } type Mutation { c(id: ID!): T @create(of: "T") }`)
	var p []api.Pick
	var args [][]api.Cell
	for i := range api.MaxRows {
		p = append(p, api.Pick{Key: "a" + strconv.Itoa(i), Name: "c"})
		args = append(args, value(t, "{id: \""+strconv.Itoa(i)+"\"}"))
	}
	_, _, _, st, e := Run(s, st, api.OpMutation, p, args)
	if e != api.OK || len(st.Tables[0].Rows) != api.MaxRows {
		t.Fatal(e)
	}
	for name, want := range map[string]string{"all": "null", "some": "{some:[" + strings.TrimSpace(strings.Repeat("null ", api.MaxRows)) + "]}"} {
		p := []api.Pick{{Key: name, Name: name, Many: api.MaxPicked - 1}}
		for i := range api.MaxPicked - 1 {
			p = append(p, api.Pick{Key: "a" + strconv.Itoa(i), Name: "to"})
		}
		data, faults, _, out, e := Run(s, st, api.OpQuery, p, [][]api.Cell{value(t, "{}")})
		if e != api.OK || show(data) != want || !undo.Alike(out, st) || len(faults) != api.MaxRows*(api.MaxPicked-1) {
			t.Fatal(name, len(faults), e)
		}
		for i, f := range faults {
			row, kid := i/(api.MaxPicked-1), i%(api.MaxPicked-1)
			if path := showFaults([]api.Fault{f}); path != "NO_LINK."+name+"."+strconv.Itoa(row)+".a"+strconv.Itoa(kid) {
				t.Fatal(i, path)
			}
		}
	}
}

// A record that is no value fails.
func TestTooLarge(t *testing.T) {
	s, st := build(t, `type T @table(most: 2) { id: ID! a: [Int] b: [Int] } type Query { t(id: ID!): T @get(of: "T") } type Mutation { c(id: ID!, a: [Int]): T @create(of: "T") u(id: ID!, b: [Int]): T @update(of: "T") }`)
	zeros := []api.Cell{{Kind: api.List, Many: 1500}}
	for range 1500 {
		zeros = append(zeros, api.Cell{Kind: api.Int})
	}
	vars := []api.Arg{{Name: "v", Value: zeros}}
	p := []api.Pick{{Key: "c", Name: "c", Args: []api.Arg{{Name: "id", Value: value(t, "1")}, {Name: "a", Value: value(t, "$v")}}}, {Key: "u", Name: "u", Args: []api.Arg{{Name: "id", Value: value(t, "1")}, {Name: "b", Value: value(t, "$v")}}}}
	args, _, e := Values(s, api.OpMutation, p, vars)
	if e != api.OK {
		t.Fatal(e)
	}
	data, faults, calls, out, e := Run(s, st, api.OpMutation, p, args)
	if e != api.OK || show(data) != "{c:{} u:null}" || showFaults(faults) != "TOO_LARGE.u" || len(calls) != 2 || len(out.Tables[0].Rows) != 1 || Check(s, out) != api.OK {
		t.Error(show(data), showFaults(faults), e)
	}
}

// P30.2: a plan's arguments.
func TestValues(t *testing.T) {
	s, _ := build(t, `input I { n: Int! = 4 s: [String!] } type T @table(most: 2) { id: ID! n: Int s: [String!] d: Int } type Query { t(id: ID!): T @get(of: "T") l(d: Int = 3): [T] @list(of: "T") } type Mutation { m(id: ID!, in: I, d: Int! = 9): T @create(of: "T") }`)
	vars := []api.Arg{{Name: "one", Value: value(t, "1")}, {Name: "i", Value: value(t, "{n: 2}")}}
	for text, want := range map[string]string{
		"mutation { m(id: 1) { id } }": "{id:1 d:9}", "mutation { m(d: 2, in: {s: \"x\"}, id: 7) { id } __typename }": "{id:7 in:{n:4 s:[x]} d:2} {}", "mutation { m(id: 1, d: $none, in: $none) { id } }": "{id:1 d:9}", "mutation { m(id: $one, in: $i, d: $one) { id } }": "{id:1 in:{n:2} d:1}", "{ l(d: null) { id } a: l { id } }": "{d:null} {d:3}", "{ l(x: 7) { id } }": "{d:3}", "{ __typename }": "{}",
		"{ t { id } }": "!t.id", "{ a: t(id: $none) { id } }": "!a.id", "mutation { m(id: 1, in: {s: [\"x\", 3]}) { id } }": "!m.in.s.1", "mutation { m(id: 1, d: null) { id } }": "!m.d", "{ l(d: true) { id } t { id } }": "!l.d",
	} {
		kind, p := plan(t, text)
		args, path, e := Values(s, kind, p, vars)
		if strings.HasPrefix(want, "!") {
			if args != nil || e != api.ErrCoerce || showFaults([]api.Fault{{Path: path}}) != "."+want[1:] {
				t.Error(text, path, e)
			}
			continue
		}
		var got []string
		for _, v := range args {
			got = append(got, show(v))
		}
		if e != api.OK || path != nil || strings.Join(got, " ") != want {
			t.Error(text, got, path, e)
		}
	}
	_, p := plan(t, "{ l { id } }")
	for i, bad := range []func() (api.Schema, uint8, []api.Pick, []api.Arg){
		func() (api.Schema, uint8, []api.Pick, []api.Arg) { return api.Schema{}, 1, p, nil }, func() (api.Schema, uint8, []api.Pick, []api.Arg) { return s, 3, p, nil }, func() (api.Schema, uint8, []api.Pick, []api.Arg) { return s, 2, p, nil }, func() (api.Schema, uint8, []api.Pick, []api.Arg) { return s, 1, p, []api.Arg{{Name: ""}} }, func() (api.Schema, uint8, []api.Pick, []api.Arg) { return s, 1, p, []api.Arg{{Name: "a"}} }, func() (api.Schema, uint8, []api.Pick, []api.Arg) {
			return s, 1, p, []api.Arg{{Name: "a", Value: value(t, "[$x]")}}
		},
	} {
		x, kind, p, vars := bad()
		if args, path, e := Values(x, kind, p, vars); args != nil || path != nil || e != api.ErrBad {
			t.Error(i, args, path, e)
		}
	}
}

// P30.2, P30.3: which plans may be.
func TestPlans(t *testing.T) {
	s, st := build(t, wide)
	type l = []api.Pick
	one := func(name string, many int) api.Pick { return api.Pick{Key: name, Name: name, Many: many} }
	deep := func(n int) l {
		out := l{one("s", 1)}
		for i := range n - 2 {
			out = append(out, one([]string{"up", "s"}[i%2], 1))
		}
		return append(out, one("id", 0))
	}
	var many l
	for i := range api.MaxPicked + 1 {
		many = append(many, api.Pick{Key: "a" + strconv.Itoa(i), Name: typename})
	}
	id := []api.Arg{{Name: "id", Value: value(t, "1")}}
	for i, p := range []l{nil, {one(typename, 0)}, {one("all", 0)}, {one("all", 1), one("s", 0)}, deep(7), many[:api.MaxPicked], {{Key: "x", Name: "each", Args: append(id, api.Arg{Name: "zz", Value: value(t, "{a: [E $v]}")})}}} {
		for j := range p {
			if p[j].Name == "s" && j == 0 {
				p[j].Args = id
			}
		}
		args, _, e := Values(s, api.OpQuery, p, nil)
		if e != api.OK {
			t.Error(i, e)
		}
		if _, _, _, _, e := Run(s, st, api.OpQuery, p, args); e != api.OK {
			t.Error(i, e)
		}
	}
	for i, p := range []l{many, deep(8), {one("x", 0)}, {one("c", 0)}, {one(typename, 1), one("id", 0)}, {one("all", 2), one("id", 0)}, {one("all", 1)}, {one("all", -1)}, {one("all", 1), one("zz", 0)}, {one("all", 1), one("id", 1), one("id", 0)}, {one("all", 1), one(typename, 1), one("id", 0)}, {one("all", 1), one("id", 1), one(typename, 0)}, {one(typename, 1), one(typename, 0)}, {one("all", 2), one("id", 0), one("id", 0)}, {one("all", 0), one("all", 0)}, {one("all", 0), one("id", 0)}, {{Key: "", Name: "all"}}, {{Key: "9", Name: "all"}}, {{Key: "all", Name: "all", Args: []api.Arg{{Name: "e"}}}}, {{Key: "all", Name: "all", Args: []api.Arg{{Name: "-", Value: value(t, "1")}}}}, {{Key: "all", Name: "all", Args: append(id, id...)}}, {{Key: "all", Name: "all", Args: []api.Arg{{Name: "e", Value: []api.Cell{{Kind: api.Enum, Text: "null"}}}}}}, {one("all", 1), {Key: "id", Name: "id", Args: []api.Arg{{Name: "e", Value: []api.Cell{{Kind: api.Object, Many: 1}, {Name: "a b"}}}}}}} {
		if args, _, e := Values(s, api.OpQuery, p, nil); args != nil || e != api.ErrBad {
			t.Error(i, e)
		}
		if data, _, _, out, e := Run(s, st, api.OpQuery, p, nil); data != nil || out.Tables != nil || e != api.ErrBad {
			t.Error(i, e)
		}
	}
	all := l{one("all", 1), one("id", 0)}
	for i, args := range [][][]api.Cell{nil, {nil}, {value(t, "{}"), value(t, "{}")}, {value(t, "{x: 1}")}, {value(t, "{e: \"A\"}")}, {value(t, "[]")}} {
		if data, _, _, out, e := Run(s, st, api.OpQuery, all, args); data != nil || out.Tables != nil || e != api.ErrArg {
			t.Error(i, e)
		}
	}
	if _, _, _, _, e := Run(s, st, api.OpQuery, l{one(typename, 0)}, [][]api.Cell{value(t, "{a: 1}")}); e != api.ErrArg {
		t.Error(e)
	}
	if _, _, _, _, e := Run(s, st, 3, nil, nil); e != api.ErrBad {
		t.Error(e)
	}
}

// P30.1
func TestCheck(t *testing.T) {
	s, st := build(t, wide)
	st = run(t, s, st, "mutation { c(id: 1, in: {}) { id } k(id: 1) { id } }", "{c:{id:1} k:{id:1}}", "")
	if Check(s, st) != api.OK || Check(api.Schema{}, api.Store{}) != api.ErrBad {
		t.Error("check")
	}
	logged, e := undo.Drop(st, 0, "1")
	if e != api.OK || Check(s, logged) != api.OK {
		t.Error("log")
	}
	for i, turn := range []func(st *api.Store){
		func(st *api.Store) { st.Tables = st.Tables[:1] }, func(st *api.Store) { st.Tables[0], st.Tables[1] = st.Tables[1], st.Tables[0] }, func(st *api.Store) { st.Tables[0].Name = "X" }, func(st *api.Store) { st.Tables[0].Most = 2 }, func(st *api.Store) { st.Tables[0].Uniques = nil }, func(st *api.Store) { st.Tables[0].Rows[0].Id = "2" }, func(st *api.Store) {
			st.Tables[0].Rows[0].Data[4] = api.Cell{Name: "x", Kind: api.Text, Text: "1.0"}
		}, func(st *api.Store) { st.Tables[0].Rows[0].Data[4] = api.Cell{Name: "x"} }, func(st *api.Store) {
			st.Tables[1].Rows[0].Data = st.Tables[1].Rows[0].Data[:2]
			st.Tables[1].Rows[0].Data[0].Many = 1
		}, func(st *api.Store) {
			st.Tables[1].Rows[0].Data = append(st.Tables[1].Rows[0].Data, api.Cell{Name: "z"})
			st.Tables[1].Rows[0].Data[0].Many = 3
		}, func(st *api.Store) {
			d := st.Tables[0].Rows[0].Data
			d[2], d[3] = d[3], d[2]
		}, func(st *api.Store) { st.Log = []api.Change{{Table: 9}} },
	} {
		x := undo.Twin(st)
		turn(&x)
		if Check(s, x) != api.ErrBad {
			t.Error(i)
		}
		if data, _, _, out, e := Run(s, x, 9, nil, nil); data != nil || out.Tables != nil || e != api.ErrBad {
			t.Error(i, e)
		}
	}
	a := []api.Fault{{Code: "A", Path: []api.Step{{Name: "x"}}}}
	if !Same(a, a) || Same(a, nil) || Same(a, []api.Fault{{Code: "A"}}) || Same(a, []api.Fault{{Code: "A", Path: a[0].Path, Rule: 1}}) || !Same(nil, []api.Fault{}) {
		t.Error("same")
	}
}

// P30.5: part by part it does the same, however many fields there are.
func TestParts(t *testing.T) {
	s, st := build(t, wide)
	var fields []string
	for i := range 70 {
		id := strconv.Itoa(i % 3)
		fields = append(fields, "a"+strconv.Itoa(i)+": c(id: "+id+", in: {n: "+strconv.Itoa(i%4)+"}) { id n }", "b"+strconv.Itoa(i)+": v(id: "+id+", n: 1) { n }")
		if i%2 == 1 {
			fields = append(fields, "d"+strconv.Itoa(i)+": d(id: "+id+") { id }")
		}
	}
	kind, p := plan(t, "mutation { "+strings.Join(fields[:60], " ")+" }")
	args, _, _ := Values(s, kind, p, nil)
	data, faults, calls, whole, e := Run(s, st, kind, p, args)
	if e != api.OK {
		t.Fatal(e)
	}
	x := planner{s: s, plan: p}
	tops := x.tops(0, len(p))
	for half := range tops {
		d1, f1, c1, s1, _ := Run(s, st, kind, p[:tops[half]], args[:half])
		d2, f2, c2, s2, e := Run(s, s1, kind, p[tops[half]:], args[half:])
		if e != api.OK || !undo.Same(s2, whole) || !Same(append(f1, f2...), faults) || len(c1)+len(c2) != len(calls) {
			t.Fatal(half, e)
		}
		if show(append([]api.Cell{{Kind: api.Object, Many: len(tops)}}, append(d1[1:], d2[1:]...)...)) != show(data) {
			t.Fatal(half)
		}
	}
}

// More fields that change the store than a Log may have changes.
func TestManyChanges(t *testing.T) {
	s, st := build(t, base)
	var p []api.Pick
	var args [][]api.Cell
	for i := range 100 {
		p = append(p, api.Pick{Key: "a" + strconv.Itoa(i), Name: "m"})
		args = append(args, value(t, "{id: \""+strconv.Itoa(i)+"\"}"))
	}
	_, faults, calls, out, e := Run(s, st, api.OpMutation, p, args)
	if e != api.OK || len(calls) != 100 || len(faults) != 98 || len(out.Tables[0].Rows) != 2 {
		t.Error(len(faults), e)
	}
	wide, st := build(t, strings.Replace(base, "most: 2", "most: 64", 1)+"type X @table(most: 64) { id: ID! }")
	_, faults, _, out, e = Run(wide, st, api.OpMutation, p, args)
	if e != api.OK || len(faults) != 36 || faults[0].Code != "TABLE_FULL" || len(out.Tables[0].Rows) != 64 {
		t.Error(len(faults), e)
	}
}

// P30.4: what is handed in is only read, and what is answered is new memory.
func TestMemory(t *testing.T) {
	s, st := build(t, base)
	kind, p := plan(t, "mutation { m(id: 1, n: 2) { id n } a: m(id: 1) { id } }")
	args, _, _ := Values(s, kind, p, nil)
	data, faults, calls, out, e := Run(s, st, kind, p, args)
	if e != api.OK || len(faults) != 1 || len(calls) != 2 {
		t.Fatal(e)
	}
	next := undo.Twin(out)
	data[1].Many, faults[0].Path[0].Name, calls[0].Args[1].Text = 9, "z", "z"
	again, more, _, other, e := Run(s, out, kind, p, args)
	if e != api.OK || len(more) != 2 || show(again) != "{m:null a:null}" || !undo.Same(other, next) {
		t.Error(show(again), more, e)
	}
	other.Tables[0].Rows[0].Data[1].Text = "z"
	if !undo.Same(out, next) || len(st.Tables[0].Rows) != 0 || args[0][1].Text != "1" || p[0].Key != "m" {
		t.Error("memory is shared")
	}
}

// Keys are names.
func TestKeys(t *testing.T) {
	s, _ := build(t, base)
	for b := range 256 {
		for _, key := range []string{string([]byte{byte(b)}), "a" + string([]byte{byte(b)})} {
			_, _, e := Values(s, api.OpQuery, []api.Pick{{Key: key, Name: typename}}, nil)
			if (e == api.OK) != lex.Name(key) {
				t.Errorf("%q %v", key, e)
			}
		}
	}
	for name, want := range map[string]api.Errno{"null": api.ErrBad, "true": api.ErrBad, "false": api.ErrBad, "A": api.OK} {
		_, _, e := Values(s, api.OpQuery, []api.Pick{{Key: "a", Name: typename, Args: []api.Arg{{Name: "x", Value: []api.Cell{{Kind: api.Enum, Text: name}}}}}}, nil)
		if e != want {
			t.Error(name, e)
		}
	}
	odd := s
	odd.Patterns = []api.Pattern{{}}
	if _, _, e := Values(odd, api.OpQuery, nil, nil); e != api.ErrBad {
		t.Error(e)
	}
	if _, _, e := Values(api.Schema{}, api.OpQuery, nil, nil); e != api.ErrBad {
		t.Error(e)
	}
}
