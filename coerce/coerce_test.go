package coerce

import (
	"strings"
	"testing"

	"provost/api"
	"provost/cell"
	"provost/json"
	"provost/lex"
	"provost/lit"
	"provost/sdl"
)

const schema = "enum E { A B } input I { a: Int! b: [E!] = [A] c: I } input N { n: N m: [N] d: Decimal = 1 } type T { x: Int } input L { l: L = {} } input W { w: [[Int!]] } input P { p: P x: Int }"

func defs(t *testing.T, s string) []api.Def {
	t.Helper()
	l, _, _, e := sdl.Parse(s)
	if e != api.OK {
		t.Fatal(e)
	}
	return l
}

func ref(t *testing.T, s string) api.Ref {
	t.Helper()
	l, _, _ := lex.Lex(s)
	r, _, e := lit.Type(l, 0)
	if e != api.OK {
		t.Fatal(s, e)
	}
	return r
}

func value(t *testing.T, s string) []api.Cell {
	t.Helper()
	l, _, _ := lex.Lex(s)
	v, _, e := lit.Value(l, 0, false)
	if e != api.OK {
		t.Fatal(s, e)
	}
	return v
}

// path is a path as a text.
func path(p []api.Step) string {
	var l []string
	for _, s := range p {
		if s.Name == "" {
			l = append(l, string(rune('0'+s.At)))
		} else {
			l = append(l, s.Name)
		}
	}
	return strings.Join(l, ".")
}

// P23.1: literals, without variables and with.
func TestLiteral(t *testing.T) {
	l := defs(t, schema)
	vars := []api.Arg{{Name: "one", Value: value(t, "1")}, {Name: "odd", Value: value(t, "[\"x\" {}]")}, {Name: "one", Value: value(t, "2")}, {Name: "no", Value: value(t, "null")}}
	for _, c := range []struct {
		v, t, want, path string
		e                api.Errno
	}{
		{"{a:1}", "I", "{a:1 b:[A]}", "", api.OK}, {"A", "[E]", "[A]", "", api.OK}, {"{c:{} a:1}", "I", "", "c.a", api.ErrCoerce}, {"{a:1 x:2}", "I", "", "x", api.ErrCoerce}, {"{x:2 a:\"s\"}", "I", "", "x", api.ErrCoerce},
		{"null", "Int", "null", "", api.OK}, {"null", "Int!", "", "", api.ErrCoerce}, {"1", "[[Int!]!]!", "[[1]]", "", api.OK}, {"[1,[2,3],null]", "[[Int]]", "[[1] [2 3] null]", "", api.OK}, {"[1,\"x\"]", "[Int]", "", "1", api.ErrCoerce}, {"[[1],[2,null]]", "[[Int!]]", "", "1.1", api.ErrCoerce}, {"[null]", "[Int!]", "", "0", api.ErrCoerce}, {"null", "[Int!]", "null", "", api.OK}, {"[]", "[Int!]!", "[]", "", api.OK},
		{"7", "ID", "\"7\"", "", api.OK}, {"1", "Decimal", "\"1\"", "", api.OK}, {"2147483648", "Int", "", "", api.ErrCoerce}, {"[1]", "Int", "", "", api.ErrCoerce}, {"{}", "Int", "", "", api.ErrCoerce}, {"A", "String", "", "", api.ErrCoerce}, {"\"A\"", "E", "", "", api.ErrCoerce}, {"C", "E", "", "", api.ErrCoerce}, {"1", "E", "", "", api.ErrCoerce}, {"1", "I", "", "", api.ErrCoerce}, {"[{a:1}]", "I", "", "", api.ErrCoerce}, {"1", "T", "", "", api.ErrCoerce}, {"1", "X", "", "", api.ErrCoerce}, {"null", "X", "null", "", api.OK},
		{"{c:{c:{a:2} b:[] a:1} b:B a:0}", "I", "{a:0 b:[B] c:{a:1 b:[] c:{a:2 b:[A]}}}", "", api.OK}, {"{b:null a:1 c:null}", "I", "{a:1 b:null c:null}", "", api.OK}, {"{a:null}", "I", "", "a", api.ErrCoerce}, {"{b:[A,null] a:1}", "I", "", "b.1", api.ErrCoerce}, {"{}", "N", "{d:\"1\"}", "", api.OK}, {"{m:{}}", "N", "{m:[{d:\"1\"}] d:\"1\"}", "", api.OK}, {"{w:[1 [2 null]]}", "W", "", "w.1.1", api.ErrCoerce},
		{"$one", "E", "1", "", api.OK}, {"$one", "[Int]", "1", "", api.OK}, {"$no", "Int!", "null", "", api.OK}, {"[$odd $none $one]", "[Int]", "[[\"x\" {}] null 1]", "", api.OK}, {"[$none]", "[Int!]", "", "0", api.ErrCoerce}, {"{a:$one b:$none c:$none}", "I", "{a:1 b:[A]}", "", api.OK}, {"{a:$none}", "I", "", "a", api.ErrCoerce}, {"{x:$none}", "I", "", "x", api.ErrCoerce}, {"$none", "Int!", "", "", api.ErrNone}, {"$none", "[Int]", "", "", api.ErrNone}, {"{a:$no}", "I", "{a:null b:[A]}", "", api.OK},
		{"{}", "L", "", strings.TrimSuffix(strings.Repeat("l.", 16), "."), api.ErrNest},
	} {
		v := value(t, c.v)
		out, p, e := Literal(l, ref(t, c.t), v, vars)
		if e != c.e || path(p) != c.path || e != api.OK && out != nil || e == api.OK && !cell.Same(out, value(t, c.want)) {
			t.Error(c, out, path(p), int(e))
		}
		if !cell.Same(v, value(t, c.v)) {
			t.Error("changed")
		}
		// P23.4: what comes of it without variables is a value of the type, and made one again it is the same.
		if e == api.OK && !strings.Contains(c.v, "$") {
			if Check(l, ref(t, c.t), out) != api.OK {
				t.Error(c)
			}
			again, _, e := Literal(l, ref(t, c.t), out, nil)
			if e != api.OK || !cell.Same(again, out) {
				t.Error(c, again, e)
			}
		}
	}
}

// P23.1: JSON.
func TestJson(t *testing.T) {
	l := defs(t, schema)
	for _, c := range []struct {
		v, t, want, path string
		e                api.Errno
	}{
		{`[1,"x"]`, "[Int]", "", "1", api.ErrCoerce}, {`"A"`, "E", "A", "", api.OK}, {`{"b":"B","a":1}`, "I", "{a:1 b:[B]}", "", api.OK}, {`{"a":1}`, "I", "{a:1 b:[A]}", "", api.OK}, {`{"a":1,"y z":0}`, "I", "", "y z", api.ErrCoerce}, {`{"a":true}`, "I", "", "a", api.ErrCoerce}, {`null`, "I", "null", "", api.OK}, {`true`, "[Boolean!]", "[true]", "", api.OK}, {`"C"`, "E", "", "", api.ErrCoerce}, {`{"m":[{},null]}`, "N", "{m:[{d:\"1\"} null] d:\"1\"}", "", api.OK},
	} {
		v, _ := json.Read(c.v)
		out, p, e := Json(l, ref(t, c.t), v)
		if e != c.e || path(p) != c.path || e != api.OK && out != nil || e == api.OK && !cell.Same(out, value(t, c.want)) {
			t.Error(c, out, path(p), int(e))
		}
		if e == api.OK && Check(l, ref(t, c.t), out) != api.OK {
			t.Error(c)
		}
	}
}

func TestBad(t *testing.T) {
	l := defs(t, schema)
	i, one := ref(t, "Int"), value(t, "1")
	for n, c := range []struct {
		l    []api.Def
		t    api.Ref
		v    []api.Cell
		vars []api.Arg
	}{{[]api.Def{{}}, i, one, nil}, {l, api.Ref{}, one, nil}, {l, api.Ref{Name: "a", Wraps: []uint8{1, 1}}, one, nil}, {l, i, nil, nil}, {l, i, one, []api.Arg{{Name: "", Value: one}}}, {l, i, one, []api.Arg{{Name: "a"}}}, {l, i, one, []api.Arg{{Name: "a", Value: value(t, "[$x]")}}}} {
		if out, p, e := Literal(c.l, c.t, c.v, c.vars); out != nil || p != nil || e != api.ErrBad {
			t.Error(n, out, p, e)
		}
		if n < 4 {
			if out, p, e := Json(c.l, c.t, c.v); out != nil || p != nil || e != api.ErrBad {
				t.Error(n, out, p, e)
			}
			if Check(c.l, c.t, c.v) != api.ErrBad {
				t.Error(n)
			}
		}
	}
	if _, _, e := Json(l, ref(t, "E"), value(t, "A")); e != api.ErrBad {
		t.Error(e)
	}
	if out, _, e := Literal(nil, i, one, nil); !cell.Same(out, one) || e != api.OK {
		t.Error(out, e)
	}
	// Of two Inputs of one name the first one counts.
	twice := defs(t, "input I { a: Int a: Int! = \"x\" b: Int } input I { c: Int }")
	if out, _, e := Literal(twice, ref(t, "I"), value(t, "{b:1 a:2}"), nil); !cell.Same(out, value(t, "{a:2 b:1}")) || e != api.OK || Check(twice, ref(t, "I"), out) != api.OK {
		t.Error(out, e)
	}
	if out, _, e := Literal(twice, ref(t, "I"), value(t, "{}"), nil); !cell.Same(out, value(t, "{}")) || e != api.OK || Check(twice, ref(t, "I"), out) != api.OK {
		t.Error(out, e)
	}
}

// P23.1: limits.
func TestLimits(t *testing.T) {
	l := defs(t, schema)
	zeros := func(n int) []api.Cell {
		v := []api.Cell{{Kind: api.List, Many: n}}
		for range n {
			v = append(v, api.Cell{Kind: api.Int})
		}
		return v
	}
	if out, _, e := Literal(l, ref(t, "[Int]"), zeros(api.MaxCells-1), nil); len(out) != api.MaxCells || e != api.OK {
		t.Error(e)
	}
	if out, p, e := Literal(l, ref(t, "[[Int]]"), zeros(1024), nil); out != nil || len(p) != 1 || p[0].At != 1023 || e != api.ErrMany {
		t.Error(p, e)
	}
	big := []api.Arg{{Name: "b", Value: zeros(1023)}, {Name: "c", Value: zeros(1022)}}
	if out, p, e := Literal(l, ref(t, "[[Int]]"), value(t, "[$b $c]"), big); len(out) != api.MaxCells || p != nil || e != api.OK {
		t.Error(len(out), p, e)
	}
	if out, p, e := Literal(l, ref(t, "[[Int]]"), value(t, "[$b $b]"), big); out != nil || path(p) != "1" || e != api.ErrMany {
		t.Error(p, e)
	}
	deep := []api.Arg{{Name: "d", Value: value(t, strings.Repeat("[", 15)+strings.Repeat("]", 15))}, {Name: "b", Value: zeros(2000)}}
	if _, p, e := Literal(l, ref(t, "[Int]"), value(t, "[$d]"), deep); p != nil || e != api.OK {
		t.Error(p, e)
	}
	if _, p, e := Literal(l, ref(t, "[[Int]]"), value(t, "[$b [$d]]"), deep); path(p) != "1.0" || e != api.ErrNest {
		t.Error(p, e)
	}
	if _, p, e := Literal(l, ref(t, "N"), value(t, strings.Repeat("{m:", 8)+"{}"+strings.Repeat("}", 8)), nil); len(p) != 8 || e != api.ErrNest {
		t.Error(len(p), e)
	}
	sixteen := value(t, strings.Repeat("{p:", 15)+"{x:1}"+strings.Repeat("}", 15))
	if out, _, e := Literal(l, ref(t, "P"), sixteen, nil); !cell.Same(out, sixteen) || e != api.OK {
		t.Error(e)
	}
	if _, p, e := Literal(l, ref(t, "[P]"), sixteen, nil); len(p) != 15 || e != api.ErrNest {
		t.Error(len(p), e)
	}
	if out, _, e := Literal(l, ref(t, "P"), value(t, strings.Repeat("{p:", 15)+"{x:$v}"+strings.Repeat("}", 15)), []api.Arg{{Name: "v", Value: value(t, "1")}}); !cell.Same(out, sixteen) || e != api.OK {
		t.Error(e)
	}
	if _, p, e := Literal(l, ref(t, "P"), value(t, strings.Repeat("{p:", 15)+"{x:$v}"+strings.Repeat("}", 15)), []api.Arg{{Name: "v", Value: value(t, "{}")}}); len(p) != 16 || e != api.ErrNest {
		t.Error(p, e)
	}
	if _, _, e := Literal(l, ref(t, "N"), value(t, strings.Repeat("{m:", 7)+"{}"+strings.Repeat("}", 7)), nil); e != api.OK {
		t.Error(e)
	}
}

// P23.2
func TestCheck(t *testing.T) {
	l := defs(t, schema)
	for _, c := range []struct{ v, t string }{{"1", "ID"}, {"\"1.0\"", "Decimal"}, {"1", "[Int]"}, {"null", "Int!"}, {"\"A\"", "E"}, {"C", "E"}, {"{a:1}", "I"}, {"{b:[A] a:1}", "I"}, {"{b:[A]}", "I"}, {"{a:1 b:[A] x:1}", "I"}, {"{a:1 b:A}", "I"}, {"1", "T"}, {"{x:1}", "T"}, {"1", "X"}, {"$x", "Int"}, {"[null]", "[Int!]"}, {"[[1]]", "[Int]"}, {"{a:1 b:[A] c:{}}", "I"}, {"1", "I"}, {"A", "Int"}} {
		if Check(l, ref(t, c.t), value(t, c.v)) != api.ErrBad {
			t.Error(c)
		}
	}
	for _, c := range []struct{ v, t string }{{"null", "X"}, {"null", "T"}, {"{a:1 b:null}", "I"}, {"{a:1 b:[] c:null}", "I"}, {"[[1] null]", "[[Int!]]!"}, {"\"2000-01-01T00:00:00Z\"", "DateTime"}} {
		if Check(l, ref(t, c.t), value(t, c.v)) != api.OK {
			t.Error(c)
		}
	}
	a, b := []api.Step{{Name: "a"}, {At: 1}}, []api.Step{{Name: "a"}, {At: 2}}
	if !Same(a, a) || Same(a, b) || Same(a, a[:1]) || !Same(nil, []api.Step{}) {
		t.Error("same")
	}
}

// P23.3: what is answered is new memory.
func TestMemory(t *testing.T) {
	l := defs(t, schema)
	vars := []api.Arg{{Name: "v", Value: value(t, "[1 2]")}}
	v := value(t, "[$v [3]]")
	out, _, e := Literal(l, ref(t, "[[Int]]"), v, vars)
	if e != api.OK || !cell.Same(out, value(t, "[[1 2] [3]]")) {
		t.Fatal(out, e)
	}
	for i := range out {
		out[i].Int = 9
	}
	one, _, _ := Literal(l, ref(t, "I"), value(t, "{a: 1}"), nil)
	one[2].Many = 7
	if !cell.Same(v, value(t, "[$v [3]]")) || !cell.Same(vars[0].Value, value(t, "[1 2]")) || l[1].Inputs[1].Default[0].Many != 1 {
		t.Error("memory is shared")
	}
}
