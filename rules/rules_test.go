package rules

import (
	"fmt"
	"slices"
	"strings"
	"testing"

	"provost/api"
	"provost/coerce"
	"provost/doc"
	"provost/schema"
	"provost/sdl"
)

const base = `type T @table(most: 2) { id: ID! n: Int } type Query { t(id: ID!): T @get(of: "T") } `

const wide = `enum E { A B } input I { id: ID! n: Int! = 1 e: [E!] l: [[Int!]] }
type T @table(most: 2) { id: ID! n: Int e: [E!] l: [[Int!]] i: Int t: T! @link(by: "id") }
type Query { t(id: ID!): T @get(of: "T") l(n: Int = 3, i: Int): [T] @list(of: "T") }
type Mutation { c(in: I!, i: Int): T @create(of: "T") u(id: ID!, n: Int! = 1): T @update(of: "T") }`

func build(t *testing.T, s string) api.Schema {
	t.Helper()
	l, _, _, e := sdl.Parse(s)
	if e != api.OK {
		t.Fatal(s, e)
	}
	x, at, e := schema.Build(l)
	if e != api.OK {
		t.Fatal(s, at, e)
	}
	return x
}

func parse(t *testing.T, s string) api.Doc {
	t.Helper()
	d, line, column, e := doc.Parse(s)
	if e != api.OK {
		t.Fatal(s, line, column, e)
	}
	return d
}

// hold holds rules against documents, whatever the order of their fragments (P25.3).
func hold(t *testing.T, s api.Schema, docs map[string]int) {
	t.Helper()
	for text, want := range docs {
		d := parse(t, text)
		for turned := range 2 {
			was := parse(t, text)
			if turned > 0 {
				slices.Reverse(was.Frags)
			}
			rule, e := Valid(s, d)
			if !doc.Same(d, was) {
				t.Error(text, "changed")
			}
			if rule != want || want == 0 && e != api.OK || want > 0 && e != api.ErrRule {
				t.Error(text, rule, int(e))
			}
			slices.Reverse(d.Frags)
		}
	}
}

// P25.1: the examples.
func TestExamples(t *testing.T) {
	hold(t, build(t, base), map[string]int{
		"{ t(id: 1) { id } }": 0, "{ t { id } }": 6, "{ t(id: 1) }": 5, "{ x }": 5, "query ($x: ID!) { t(id: 1) { id } }": 9, "{ t(id: $x) { id } }": 9, "{ t(id: 1) { id } t(id: 2) { id } }": 11, "{ t(id: true) { id } }": 10, "{ ...F }": 3,
		"mutation { x }": 5,
	})
}

// P25.1: each rule.
func TestRules(t *testing.T) {
	s := build(t, wide)
	hold(t, s, map[string]int{
		"fragment F on T { id }": 1, "query A { __typename } query A { __typename }": 1, "{ __typename } query A { __typename }": 1, "{ __typename } { __typename }": 1, "query A { __typename } mutation B { __typename }": 0,
		"{ ...F } fragment F on Query { __typename } fragment F on Query { __typename }": 2, "{ ...F } fragment F on X { id }": 2, "{ ...F } fragment F on E { id }": 2, "{ ...F } fragment F on I { id }": 2, "{ ...F } fragment F on Int { id }": 2,
		"{ ...F } fragment F on Query { ...G }": 3, "{ ...F } fragment F on Query { ...F }": 3, "{ ...F } fragment F on Query { ...G } fragment G on Query { ... { ...F } }": 3, "{ __typename } fragment F on Query { ...F }": 3,
		"{ __typename } fragment F on Query { __typename }": 4, "{ ...F } fragment F on Query { __typename } fragment G on Query { ...F }": 4, "query A { ...F } query B { ...G } fragment F on Query { __typename } fragment G on Query { ...F }": 0,
		"{ __typename { id } }": 5, "{ t(id: 1) { __typename x: __typename } }": 0, "{ t(id: 1) { x } }": 5, "{ t(id: 1) { id { id } } }": 5, "{ t(id: 1) { t } }": 5, "{ t(id: 1) { t { id } } }": 0, "{ ...F } fragment F on T { id }": 5, "{ t(id: 1) { ...F } } fragment F on T { id }": 0, "{ ... on T { id } }": 5, "{ ... on Query { ... { t(id: 1) { ... on T { id } } } } }": 0, "mutation { t(id: 1) { id } }": 5, "{ c(in: {id: 1}) { id } }": 5, "{ t(id: 1) { ... on Query { id } } }": 5, "{ t(id: 1) { ...F } } fragment F on T { x }": 5,
		"{ __typename(a: 1) }": 6, "{ t(id: 1, x: 2) { id } }": 6, "{ t(id: 1) { id(a: 1) } }": 6, "{ l { id } }": 0, "mutation { u(id: 1) { id } }": 0, "mutation { u { id } }": 6, "{ ...F } fragment F on Query { t { id } }": 6,
		"{ __typename @x }": 7, "{ __typename @skip }": 7, "{ __typename @skip(x: true) }": 7, "{ __typename @skip(if: true, x: 1) }": 7, "{ __typename @skip(if: true) @skip(if: true) }": 7, "{ __typename @skip(if: true) @include(if: true) }": 0, "{ ... @include(if: true) { __typename } }": 0, "{ ...F @skip } fragment F on Query { __typename }": 7,
		"query ($x: Int $x: Int) { l(n: $x) { id } }": 8, "query ($x: T) { l(n: $x) { id } }": 8, "query ($x: X) { l(n: $x) { id } }": 8, "query ($x: Int = \"a\") { l(n: $x) { id } }": 8, "query ($x: Int! = null) { l(n: $x) { id } }": 8, "query ($y: Int $x: Int = true) { l(n: $x i: $y) { id } }": 8, "query ($x: Int = 2147483648) { l(n: $x) { id } }": 8, "query ($x: Int = 1) { l(n: $x) { id } }": 0,
		"query ($x: Int) { __typename }": 9, "{ __typename @skip(if: $x) }": 9, "query ($x: Boolean!) { __typename @skip(if: $x) }": 0, "query ($x: Int) { ...F } fragment F on Query { l(n: $x) { id } }": 0, "query A($x: Int) { ...F } query B { ...F } fragment F on Query { l(n: $x) { id } }": 9, "mutation ($x: ID!) { c(in: {id: $x}) { id } }": 0, "query A($x: Int) { l(n: $x) { id } } query B { l(n: $x) { id } }": 9, "query A { l(n: $x) { id } } query B($x: Int) { __typename }": 9,
	})
}

// P25.1: literals, and where variables may stand.
func TestLiterals(t *testing.T) {
	s := build(t, wide)
	for arg, fits := range map[string]bool{
		"in: {id: 1}": true, "in: {id: 1 n: null}": false, "in: {n: 1}": false, "in: null": false, "in: 1": false, "in: [{id: 1}]": false, "in: {id: 1 x: 1}": false, "in: {id: true}": false, "in: {id: 1 e: A}": true, "in: {id: 1 e: [A B]}": true, "in: {id: 1 e: [A null]}": false, "in: {id: 1 e: null}": true, "in: {id: 1 e: \"A\"}": false, "in: {id: 1 e: C}": false, "in: {id: 1 e: [[A]]}": false, "in: {id: 1 l: 1}": true, "in: {id: 1 l: [1 [2] null]}": true, "in: {id: 1 l: [[null]]}": false, "in: {id: 1 l: [[[1]]]}": false, "in: {id: 1} i: 2147483648": false, "in: {id: 1} i: null": true, "in: {id: 1} i: \"1\"": false, "in: {id: 1} i: [1]": false, "in: {id: \"a\" n: 2} i: -1": true,
	} {
		want := 0
		if !fits {
			want = 10
		}
		hold(t, s, map[string]int{"mutation { c(" + arg + ") { id } }": want})
		if d := parse(t, "mutation { c("+arg+") { id } }"); fits {
			for _, a := range d.Ops[0].Sels[0].Args {
				ref := api.Ref{Name: "I", Wraps: []uint8{1}}
				if a.Name == "i" {
					ref = api.Ref{Name: "Int"}
				}
				if _, _, e := coerce.Literal(s.Defs, ref, a.Value, nil); e != api.OK {
					t.Error(arg, e)
				}
			}
		}
	}
	for v, want := range map[string]string{"Int": "0 0 x x x x x", "Int!": "0 0 0 x 0 x x", "Int = 1": "0 0 0 x 0 x x", "[Int!]": "x x x 0 x x x", "Int = null": "0 0 x x x x x", "ID!": "x x x x x 0 x", "I": "x x x x x x x", "I!": "x x x x x x 0", "[[Int!]]": "x x x x x x x"} {
		uses := []string{"{ l(n: $x) { id } }", "{ l(i: $x) { id } }", "x", "x", "x", "{ t(id: $x) { id } }", "x"}
		for i, w := range strings.Fields(want) {
			text := "query ($x: " + v + ") " + uses[i]
			switch i {
			case 2:
				text = "mutation ($x: " + v + ") { u(id: 1, n: $x) { id } }"
			case 3:
				text = "mutation ($x: " + v + ") { c(in: {id: 1 l: [$x]}) { id } }"
			case 4:
				text = "mutation ($x: " + v + ") { c(in: {id: 1 l: [[$x]]}) { id } }"
			case 6:
				text = "mutation ($x: " + v + ") { c(in: $x) { id } }"
			}
			rule := 10
			if w == "0" {
				rule = 0
			}
			// An Input of n: Int! = 1 has a default there.
			if i == 2 && v == "Int" || i == 2 && v == "Int = null" {
				rule = 0
			}
			hold(t, s, map[string]int{text: rule})
		}
	}
	hold(t, s, map[string]int{"{ __typename @skip(if: 1) }": 10, "{ __typename @skip(if: null) }": 10, "query ($x: Boolean) { __typename @skip(if: $x) }": 10, "query ($x: Boolean = true) { __typename @skip(if: $x) }": 0, "mutation ($x: Int) { c(in: {id: 1 n: $x}) { id } }": 0, "{ __typename @skip(if: true) ...F } fragment F on Query { l(n: true) { id } }": 10})
}

// P25.1: fields that are put together.
func TestScopes(t *testing.T) {
	s := build(t, wide)
	hold(t, s, map[string]int{
		"{ t(id: 1) { id } t(id: 1) { n } }": 0, "{ l(n: 1, i: 2) { id } l(i: 2, n: 1) { id } }": 0, "{ l(n: 1) { id } l { id } }": 11, "{ a: t(id: 1) { id } a: l { id } }": 11, "{ t(id: 1) { id } a: t(id: 2) { id } }": 0, "{ t(id: 1) { a: id } t(id: 1) { a: n } }": 11, "{ t(id: 1) { a: id } ... { t(id: 1) { a: n } } }": 11, "{ t(id: 1) { a: id } ...F } fragment F on Query { t(id: 1) { a: n } }": 11, "{ t(id: \"1\") { id } t(id: 1) { id } }": 11, "query ($x: ID! $y: ID!) { t(id: $x) { id } t(id: $y) { id } }": 11, "query ($x: ID!) { t(id: $x) { id } t(id: $x) { n } }": 0, "{ t(id: 1) { t { a: id } t { a: n } } }": 11, "{ t(id: 1) { t { a: id } } t(id: 1) { t { a: n } } }": 11, "{ a: __typename a: t(id: 1) { id } }": 11, "{ ...F ...F } fragment F on Query { a: __typename }": 0, "{ t(id: 1) @skip(if: true) { a: id } t(id: 1) { a: n } }": 11, "query A { __typename } query B { a: __typename a: t(id: 1) { id } }": 11, "{ t(id: 1) { ...F t { ...F } } } fragment F on T { a: id }": 0, "{ t(id: 1) { ...F a: n } } fragment F on T { a: id }": 11,
	})
}

// P25.1: too many scopes, and which break is first.
func TestManyScopes(t *testing.T) {
	s := build(t, wide)
	// F0 has one scope within, each other one two of the one ahead.
	deep := func(n int, top string) api.Doc {
		var out strings.Builder
		out.WriteString(top + " fragment F0 on T { id }")
		for i := 1; i <= n; i++ {
			fmt.Fprintf(&out, " fragment F%d on T { a: t { ...F%d } b: t { ...F%d } }", i, i-1, i-1)
		}
		return parse(t, out.String())
	}
	for _, c := range []struct {
		d    api.Doc
		rule int
		e    api.Errno
	}{
		{deep(6, "{ t(id: 1) { ...F6 } }"), 0, api.OK}, {deep(7, "{ t(id: 1) { ...F7 } }"), 0, api.OK}, {deep(7, "{ t(id: 1) { ...F7 } }"), 0, api.OK}, {deep(8, "{ t(id: 1) { ...F8 } }"), 11, api.ErrMany}, {deep(20, "{ t(id: 1) { ...F20 } }"), 11, api.ErrMany},
		{deep(8, "{ t(id: 1) { ...F8 } x: __typename x: l { id } }"), 11, api.ErrMany}, {deep(8, "{ x: __typename x: l { id } t(id: 1) { ...F8 } }"), 11, api.ErrRule},
		// 1 + 1 + 254 = 256 scopes, and one more.
		{deep(7, "{ t(id: 1) { ...F7 } }"), 0, api.OK}, {deep(7, "{ t(id: 1) { ...F7 } l { id } }"), 11, api.ErrMany}, {deep(7, "query A { t(id: 1) { ...F7 } } query B { l { id } }"), 0, api.OK},
	} {
		if rule, e := Valid(s, c.d); rule != c.rule || e != c.e {
			t.Error(rule, int(e), c.rule, int(c.e))
		}
	}
}

func TestBad(t *testing.T) {
	s := build(t, base)
	d := parse(t, "{ t(id: 1) { id } }")
	if rule, e := Valid(api.Schema{}, d); rule != 0 || e != api.ErrBad {
		t.Error(rule, e)
	}
	if rule, e := Valid(s, api.Doc{}); rule != 0 || e != api.ErrBad {
		t.Error(rule, e)
	}
}

// P25.2: what is handed in is only read, behind its end, too.
func TestOnlyRead(t *testing.T) {
	s := build(t, wide)
	d := parse(t, "query ($x: Int) { ...F l(n: $x) @skip(if: true) { id } } fragment F on Query { __typename }")
	d.Ops[0].Sels = append(make([]api.Sel, 0, 9), d.Ops[0].Sels...)
	args := &d.Ops[0].Sels[1].Args
	*args = append(make([]api.Arg, 0, 9), *args...)
	if rule, e := Valid(s, d); e != api.OK {
		t.Fatal(rule, e)
	}
	if d.Ops[0].Sels[:4][3].Name != "" || (*args)[:2][1].Name != "" {
		t.Error("changed")
	}
}
