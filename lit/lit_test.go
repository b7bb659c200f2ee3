package lit

import (
	"slices"
	"strings"
	"testing"

	"provost/api"
	"provost/cell"
	"provost/lex"
)

// words are the tokens of a text, without the end.
func words(t *testing.T, s string) []api.Token {
	t.Helper()
	l, _, e := lex.Lex(s)
	if e != api.OK {
		t.Fatal(s, e)
	}
	for i := range l {
		l[i].At = 0
	}
	return l[:len(l)-1]
}

// P18.1: values, and that their tokens tell them (P18.3, P18.5).
func TestValue(t *testing.T) {
	for s, want := range map[string][]api.Cell{
		"[$x, {a: RED}]": {{Kind: api.List, Many: 2}, {Kind: api.Var, Text: "x"}, {Kind: api.Object, Many: 1}, {Name: "a", Kind: api.Enum, Text: "RED"}},
		"null":           {{}}, "true": {{Kind: api.Bool, Int: 1}}, "false": {{Kind: api.Bool}}, "-9223372036854775808": {{Kind: api.Int, Int: -1 << 63}}, `"a\n"`: {{Kind: api.Text, Text: "a\n"}}, "[]": {{Kind: api.List}}, "{}": {{Kind: api.Object}}, "$null": {{Kind: api.Var, Text: "null"}},
		"{a:{b:[1 2]} true:{}}": {{Kind: api.Object, Many: 2}, {Name: "a", Kind: api.Object, Many: 1}, {Name: "b", Kind: api.List, Many: 2}, {Kind: api.Int, Int: 1}, {Kind: api.Int, Int: 2}, {Name: "true", Kind: api.Object}},
	} {
		l := words(t, s)
		v, next, e := Value(l, 0, false)
		if e != api.OK || next != len(l) || !cell.Same(v, want) || cell.Check(v) != api.OK {
			t.Error(s, v, next, e)
			continue
		}
		back, e := Tokens(v)
		if e != api.OK || !slices.Equal(back, l) {
			t.Error(s, back, e)
		}
		for _, behind := range []string{"x", "]", "1", "(", "!"} {
			around := append(words(t, "y 7"), append(slices.Clone(l), words(t, behind)...)...)
			v, next, e := Value(around, 2, false)
			if e != api.OK || next != 2+len(l) || !cell.Same(v, want) {
				t.Error(s, v, next, e)
			}
		}
	}
	v, next, e := Value(words(t, "-0"), 0, true)
	if e != api.OK || next != 1 || v[0] != (api.Cell{Kind: api.Int}) {
		t.Error(v, next, e)
	}
}

func TestValueErrors(t *testing.T) {
	deep := strings.Repeat("[", 17)
	for _, c := range []struct {
		s     string
		fixed bool
		at    int
		e     api.Errno
	}{
		{"$x", true, 0, api.ErrSyntax}, {"{a 1}", false, 2, api.ErrSyntax}, {"{a:1 a:2}", false, 4, api.ErrTwice}, {"[", false, 1, api.ErrSyntax}, {"[1 }", false, 2, api.ErrSyntax}, {"]", false, 0, api.ErrSyntax}, {"{1:1}", false, 1, api.ErrSyntax}, {"{\"a\":1}", false, 1, api.ErrSyntax}, {"$\"a\"", false, 1, api.ErrSyntax}, {"{a:}", false, 3, api.ErrSyntax}, {"{a", false, 2, api.ErrSyntax}, {"$", false, 1, api.ErrSyntax}, {"$ 1", false, 1, api.ErrSyntax}, {"[1 $x]", true, 2, api.ErrSyntax}, {"!", false, 0, api.ErrSyntax}, {"...", false, 0, api.ErrSyntax},
		{"9223372036854775808", false, 0, api.ErrNumber}, {"[1 -9223372036854775809", false, 2, api.ErrNumber}, {deep, false, 16, api.ErrNest}, {strings.Repeat("{a:", 17), false, 48, api.ErrNest}, {"{a:{a:1} b:1 a:1}", false, 11, api.ErrTwice}, {"{a:1 a}", false, 4, api.ErrTwice},
	} {
		v, next, e := Value(words(t, c.s), 0, c.fixed)
		if v != nil || next != c.at || e != c.e {
			t.Error(c.s, v, next, int(e))
		}
	}
	for _, l := range [][]api.Token{{{Kind: api.TokEnd}}, {{Kind: api.TokName, Text: "9"}}, {{Kind: api.TokText, Text: "\xff"}}, {{Kind: 9, Text: "a"}}, {{Kind: api.TokPunct, Text: "$x"}}} {
		if v, next, e := Value(l, 0, false); v != nil || next != 0 || e != api.ErrSyntax {
			t.Error(l, v, next, e)
		}
	}
	one := words(t, "1")
	for _, at := range []int{-1, 1, 1 << 40} {
		if v, next, e := Value(one, at, false); v != nil || next != 0 || e != api.ErrArg {
			t.Error(v, next, e)
		}
		if _, next, e := Type(one, at); next != 0 || e != api.ErrArg {
			t.Error(next, e)
		}
		if _, next, e := Arguments(one, at, false); next != 0 || e != api.ErrArg {
			t.Error(next, e)
		}
		if _, next, e := Directives(nil, at, false); next != 0 || e != api.ErrArg {
			t.Error(next, e)
		}
	}
}

// Many cells, and which error goes ahead at one token.
func TestMany(t *testing.T) {
	l := []api.Token{mark("[")}
	for range api.MaxCells - 1 {
		l = append(l, name("a"))
	}
	if v, next, e := Value(append(slices.Clone(l), mark("]")), 0, false); len(v) != api.MaxCells || next != len(l)+1 || e != api.OK {
		t.Error(len(v), next, e)
	}
	for _, c := range []struct {
		x api.Token
		e api.Errno
	}{{name("a"), api.ErrMany}, {mark("["), api.ErrMany}, {mark("$"), api.ErrMany}, {mark(")"), api.ErrSyntax}} {
		if v, next, e := Value(append(slices.Clone(l), c.x), 0, false); v != nil || next != len(l) || e != c.e {
			t.Error(c, next, e)
		}
	}
	full := words(t, strings.Repeat("[", 16))
	for range api.MaxCells - 16 {
		full = append(full, name("a"))
	}
	if _, next, e := Value(append(full, mark("[")), 0, false); next != len(full) || e != api.ErrMany {
		t.Error(next, e)
	}
}

// P18.2, P18.3: types.
func TestType(t *testing.T) {
	for s, want := range map[string]api.Ref{
		"Int": {Name: "Int"}, "[Int!]": {Name: "Int", Wraps: []uint8{2, 1}}, "Int!": {Name: "Int", Wraps: []uint8{1}}, "[[a]!]!": {Name: "a", Wraps: []uint8{1, 2, 1, 2}}, "[[[[a!]!]!]!]": {Name: "a", Wraps: []uint8{2, 1, 2, 1, 2, 1, 2, 1}}, "[[[[[[[[a]]]]]]]]": {Name: "a", Wraps: []uint8{2, 2, 2, 2, 2, 2, 2, 2}},
	} {
		l := words(t, s)
		r, next, e := Type(l, 0)
		if e != api.OK || next != len(l) || r.Name != want.Name || !slices.Equal(r.Wraps, want.Wraps) {
			t.Error(s, r, next, e)
		}
		back, e := TypeTokens(r)
		if e != api.OK || !slices.Equal(back, l) {
			t.Error(s, back, e)
		}
	}
	for s, want := range map[string]struct {
		at int
		e  api.Errno
	}{"[": {1, api.ErrSyntax}, "[]": {1, api.ErrSyntax}, "!": {0, api.ErrSyntax}, "[a": {2, api.ErrSyntax}, "[a)": {2, api.ErrSyntax}, "1": {0, api.ErrSyntax}, "[[[[[[[[[a": {8, api.ErrNest}, "[[[[a!]!]!]!]!": {13, api.ErrNest}, "[[[[[[[[a!": {9, api.ErrNest}} {
		if r, next, e := Type(words(t, s), 0); r.Name != "" || r.Wraps != nil || next != want.at || e != want.e {
			t.Error(s, r, next, int(e))
		}
	}
	if r, next, e := Type(words(t, "a!!"), 0); r.Name != "a" || next != 2 || e != api.OK {
		t.Error(r, next, e)
	}
	for _, r := range []api.Ref{{}, {Name: "9"}, {Name: "a", Wraps: []uint8{3}}, {Name: "a", Wraps: []uint8{0}}, {Name: "a", Wraps: []uint8{1, 1}}, {Name: "a", Wraps: []uint8{2, 2, 2, 2, 2, 2, 2, 2, 2}}} {
		if l, e := TypeTokens(r); l != nil || e != api.ErrBad {
			t.Error(r, l, e)
		}
	}
}

// P18.2, P18.3: arguments and directives.
func TestDirectives(t *testing.T) {
	l := words(t, "@a @b(c: 1 d: [$x]) @a x")
	d, next, e := Directives(l, 0, false)
	if e != api.OK || next != len(l)-1 || len(d) != 3 || d[0].Name != "a" || d[0].Args != nil || d[1].Name != "b" || len(d[1].Args) != 2 || d[1].Args[0].Name != "c" || d[1].Args[0].Value[0].Int != 1 || len(d[1].Args[1].Value) != 2 {
		t.Error(d, next, e)
	}
	back, e := DirectiveTokens(d)
	if e != api.OK || !slices.Equal(back, l[:len(l)-1]) {
		t.Error(back, e)
	}
	a, next, e := Arguments(l, 4, false)
	if e != api.OK || next != 15 || len(a) != 2 {
		t.Error(a, next, e)
	}
	back, e = ArgumentTokens(a)
	if e != api.OK || !slices.Equal(back, l[4:15]) {
		t.Error(back, e)
	}
	if a, next, e := Arguments(l, 3, false); a != nil || next != 3 || e != api.OK {
		t.Error(a, next, e)
	}
	if d, next, e := Directives(l, 1, false); d != nil || next != 1 || e != api.OK {
		t.Error(d, next, e)
	}
	for s, want := range map[string]struct {
		at int
		e  api.Errno
	}{"()": {1, api.ErrSyntax}, "(a)": {2, api.ErrSyntax}, "(a:1": {4, api.ErrSyntax}, "(a:1 a:2)": {4, api.ErrTwice}, "(a:)": {3, api.ErrSyntax}, "(a:1 b": {5, api.ErrSyntax}, "(1:1)": {1, api.ErrSyntax}, "(\"a\":1)": {1, api.ErrSyntax}, "(a:{b:1 b:1})": {7, api.ErrTwice}, "(a:$x)": {3, api.ErrSyntax}} {
		if a, next, e := Arguments(words(t, s), 0, true); a != nil || next != want.at || e != want.e {
			t.Error(s, a, next, int(e))
		}
		if d, next, e := Directives(append(words(t, "@d"), words(t, s)...), 0, true); d != nil || next != want.at+2 || e != want.e {
			t.Error(s, d, next, int(e))
		}
	}
	if d, next, e := Directives(words(t, "@a @ 1"), 0, true); d != nil || next != 3 || e != api.ErrSyntax {
		t.Error(d, next, e)
	}
	one := []api.Cell{{Kind: api.Int, Int: 1}}
	for _, a := range [][]api.Arg{{{Name: "a", Value: one}, {Name: "a", Value: one}}, {{Name: "", Value: one}}, {{Name: "a"}}, {{Name: "a", Value: []api.Cell{{Kind: api.Enum, Text: "null"}}}}} {
		if l, e := ArgumentTokens(a); l != nil || e != api.ErrBad {
			t.Error(a, l, e)
		}
		if l, e := DirectiveTokens([]api.Dir{{Name: "d", Args: a}}); l != nil || e != api.ErrBad {
			t.Error(a, l, e)
		}
	}
	if l, e := DirectiveTokens([]api.Dir{{Name: "-"}}); l != nil || e != api.ErrBad {
		t.Error(l, e)
	}
	if l, e := ArgumentTokens(nil); l != nil || e != api.OK {
		t.Error(l, e)
	}
	for _, v := range [][]api.Cell{nil, {{Kind: api.Enum, Text: "true"}}, {{Kind: api.Enum, Text: "false"}}, {{Kind: api.Object, Many: 1}, {Name: "a b"}}, {{Kind: api.List, Many: 1}}, {{Name: "a"}}} {
		if l, e := Tokens(v); l != nil || e != api.ErrBad {
			t.Error(v, l, e)
		}
	}
}
