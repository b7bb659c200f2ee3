package pick

import (
	"fmt"
	"strconv"
	"strings"
	"testing"

	"provost/api"
	"provost/doc"
)

func parse(t *testing.T, s string) api.Doc {
	t.Helper()
	d, line, column, e := doc.Parse(s)
	if e != api.OK {
		t.Fatal(s, line, column, e)
	}
	return d
}

func yes(n int64) []api.Cell { return []api.Cell{{Kind: api.Bool, Int: n}} }

// tell is a plan as a text.
func tell(l []api.Pick) string {
	var out []string
	for _, p := range l {
		s := p.Key
		if p.Name != p.Key {
			s += ":" + p.Name
		}
		for _, a := range p.Args {
			s += "(" + a.Name + strconv.FormatInt(a.Value[0].Int, 10) + a.Value[0].Text + ")"
		}
		if p.Many > 0 {
			s += "/" + strconv.Itoa(p.Many)
		}
		out = append(out, s)
	}
	return strings.Join(out, " ")
}

// P29.2: the examples, and what is left out.
func TestPlan(t *testing.T) {
	vars := []api.Arg{{Name: "yes", Value: yes(1)}, {Name: "no", Value: yes(0)}, {Name: "yes", Value: yes(0)}, {Name: "one", Value: []api.Cell{{Kind: api.Int, Int: 1}}}, {Name: "list", Value: []api.Cell{{Kind: api.List, Many: 1}, {Kind: api.Bool, Int: 1}}}}
	for s, want := range map[string]string{
		"{ a b: c { d } a }": "a b:c/1 d", "{ x { a } x { b a } }": "x/2 a b", "{ a @skip(if: true) ...F ...F } fragment F on T { b }": "b", "{ a @include(if: $no) }": "", "{ a @include(if: $none) }": "a",
		"{ a @skip(if: $yes) b @skip(if: $no) c @include(if: $yes) }": "b c", "{ a @skip b @include c @skip(x: true) d @skip(if: 1) e @skip(if: $one) f @other(if: true) g @skip(if: $list) h @include(if: null) }": "a b d e f g h", "{ a @skip(if: false, x: true) b @include(if: true) @skip(if: true) c @skip(if: false) @skip(if: true) }": "a",
		"{ a ... { b } ... on X { c a } ... @skip(if: true) { d } e }": "a b c e", "{ ...F @skip(if: true) ...F a } fragment F on T { b }": "b a", "{ ...F a ...F } fragment F on T { b ...G } fragment G on T { ...F c }": "b c a", "{ ...X a }": "a", "{ ...F } fragment F on T { a } fragment F on T { b }": "a",
		"{ x { ...F } ...F } fragment F on T { y }": "x/1 y y", "{ x { ...F } x { ...F z } } fragment F on T { y }": "x/2 y z", "{ x(a: 1) { b } x: y(a: 2) { c } }": "x(a1)/2 b c", "{ x: y(a: $v) { b @skip(if: true) } }": "x:y(a0v)", "{ x a { b } x { c } a { d } }": "x/1 c a/2 b d", "{ ... { ...F } a } fragment F on T { a b }": "a b",
	} {
		got, e := Plan(parse(t, s), 0, vars)
		if e != api.OK || tell(got) != want {
			t.Error(s, tell(got), e)
		}
		// P29.4: told twice, it makes the same plan.
		at := strings.LastIndex(s, "fragment")
		if at < 0 {
			twice, e := Plan(parse(t, "{ ..."+s+" ..."+s+" }"), 0, vars)
			if e != api.OK || !Same(twice, got) {
				t.Error(s, tell(twice), e)
			}
		}
	}
	d := parse(t, "{ a(b: [1]) } mutation M { c }")
	if got, e := Plan(d, 1, nil); e != api.OK || tell(got) != "c" {
		t.Error(got, e)
	}
	got, _ := Plan(d, 0, nil)
	got[0].Args[0].Value[1].Int, got[0].Args[0].Name = 7, "z"
	if d.Ops[0].Sels[0].Args[0].Value[1].Int != 1 || d.Ops[0].Sels[0].Args[0].Name != "b" {
		t.Error("memory is shared")
	}
	for _, op := range []int{-1, 2, 1 << 40} {
		if got, e := Plan(d, op, nil); got != nil || e != api.ErrArg {
			t.Error(op, e)
		}
	}
	if got, e := Plan(api.Doc{}, -1, nil); got != nil || e != api.ErrBad {
		t.Error(got, e)
	}
	for _, v := range [][]api.Cell{nil, {{Kind: api.Var, Text: "x"}}, {{Kind: api.List, Many: 1}}} {
		if got, e := Plan(d, -1, []api.Arg{{Name: "x", Value: v}}); got != nil || e != api.ErrBad {
			t.Error(got, e)
		}
	}
	if _, e := Plan(d, 0, []api.Arg{{Name: "", Value: yes(1)}}); e != api.OK {
		t.Error(e)
	}
}

// P29.2: limits, and which is first.
func TestLimits(t *testing.T) {
	deep := func(n int) string { return strings.Repeat("{ a ", n) + strings.Repeat("} ", n) }
	wide := func(n int) string {
		var out strings.Builder
		for i := range n {
			fmt.Fprintf(&out, "a%d ", i)
		}
		return out.String()
	}
	for s, want := range map[string]api.Errno{
		deep(7): api.OK, deep(8): api.ErrNest, "{ " + wide(256) + "}": api.OK, "{ " + wide(257) + "}": api.ErrMany, "{ x " + deep(7) + wide(300) + "}": api.ErrNest, "{ " + wide(257) + " x " + deep(7) + "}": api.ErrMany, "{ " + wide(249) + " x " + deep(6) + "}": api.OK, "{ " + wide(250) + " x " + deep(6) + "}": api.ErrMany,
		"{ ...F } fragment F on T { a { ...F } }": api.ErrNest, "{ ...F } fragment F on T { a { ...F } b { ...F } }": api.ErrNest, strings.Repeat("{ a ", 7) + "{ b @skip(if: true) }" + strings.Repeat("} ", 7): api.OK, "{ ...F } fragment F on T { ... { ...F } }": api.OK,
	} {
		got, e := Plan(parse(t, s), 0, nil)
		if e != want || e != api.OK && got != nil {
			t.Errorf("%.60s %d %d", s, int(e), len(got))
		}
	}
}

// P29.1
func TestChoose(t *testing.T) {
	two := parse(t, "query A { a } query B { a } query B { b }")
	for _, c := range []struct {
		d    api.Doc
		name string
		has  bool
		at   int
		e    api.Errno
	}{{two, "A", true, 0, api.OK}, {two, "B", true, 1, api.OK}, {two, "C", true, 0, api.ErrNone}, {two, "", false, 0, api.ErrNone}, {two, "B", false, 0, api.ErrNone}, {parse(t, "{ a }"), "", false, 0, api.OK}, {parse(t, "{ a }"), "x", false, 0, api.OK}, {parse(t, "{ a }"), "", true, 0, api.OK}, {parse(t, "{ a }"), "x", true, 0, api.ErrNone}, {parse(t, "fragment F on T { a }"), "", false, 0, api.ErrNone}, {api.Doc{}, "", false, 0, api.ErrBad}} {
		if at, e := Choose(c.d, c.name, c.has); at != c.at || e != c.e {
			t.Error(c, at, e)
		}
	}
	a, _ := Plan(two, 0, nil)
	b, _ := Plan(two, 2, nil)
	if Same(a, b) || !Same(a, a) || !Same(nil, []api.Pick{}) || Same(a, nil) {
		t.Error("same")
	}
}

// Plans are the same just if all that they tell is.
func TestSame(t *testing.T) {
	fresh := func() []api.Pick {
		return []api.Pick{{Key: "k", Name: "n", Args: []api.Arg{{Name: "a", Value: yes(1)}}, Many: 1}}
	}
	for i, turn := range []func(p *api.Pick){func(p *api.Pick) { p.Key = "z" }, func(p *api.Pick) { p.Name = "z" }, func(p *api.Pick) { p.Many = 2 }, func(p *api.Pick) { p.Args[0].Name = "z" }, func(p *api.Pick) { p.Args[0].Value = yes(0) }, func(p *api.Pick) { p.Args = nil }} {
		p := fresh()
		turn(&p[0])
		if Same(p, fresh()) {
			t.Error(i)
		}
	}
	if !Same(fresh(), fresh()) {
		t.Error("same")
	}
}
