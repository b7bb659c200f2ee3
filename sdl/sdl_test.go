package sdl

import (
	"strings"
	"testing"

	"provost/api"
)

func num(n int64) []api.Cell { return []api.Cell{{Kind: api.Int, Int: n}} }

func word(s string) []api.Cell { return []api.Cell{{Kind: api.Text, Text: s}} }

// P20.1: the examples, and that two texts tell both (P20.4).
func TestParse(t *testing.T) {
	texts := map[string]api.Def{
		"enum E { A B }": {Kind: api.DefEnum, Name: "E", Names: []string{"A", "B"}},
		"input I @oneOf { a: Int = 1 @range(min: 0) b: [I!] }": {Kind: api.DefInput, Name: "I", Dirs: []api.Dir{{Name: "oneOf"}}, Inputs: []api.Input{
			{Name: "a", Type: api.Ref{Name: "Int"}, Has: true, Default: num(1), Dirs: []api.Dir{{Name: "range", Args: []api.Arg{{Name: "min", Value: num(0)}}}}}, {Name: "b", Type: api.Ref{Name: "I", Wraps: []uint8{2, 1}}}}},
		"type Q { f(x: E = A y: Int @d): String! @get(of: \"T\") g: Q }": {Kind: api.DefType, Name: "Q", Fields: []api.Field{
			{Name: "f", Args: []api.Input{{Name: "x", Type: api.Ref{Name: "E"}, Has: true, Default: []api.Cell{{Kind: api.Enum, Text: "A"}}}, {Name: "y", Type: api.Ref{Name: "Int"}, Dirs: []api.Dir{{Name: "d"}}}}, Type: api.Ref{Name: "String", Wraps: []uint8{1}}, Dirs: []api.Dir{{Name: "get", Args: []api.Arg{{Name: "of", Value: word("T")}}}}}, {Name: "g", Type: api.Ref{Name: "Q"}}}},
		"type type{type:type}enum enum @a@a{enum input}": {},
	}
	for s, want := range texts {
		l, line, column, e := Parse(s)
		if e != api.OK || line != 0 || column != 0 || Check(l) != api.OK {
			t.Error(s, l, line, column, e)
			continue
		}
		if want.Name != "" && !Same(l, []api.Def{want}) {
			t.Error(s, l)
		}
		for r := range texts {
			m, _, _, _ := Parse(r)
			both, _, _, e := Parse(s + r)
			if e != api.OK || !Same(both, append(l[:len(l):len(l)], m...)) {
				t.Error(s, r, both, e)
			}
		}
	}
}

func TestParseErrors(t *testing.T) {
	for s, want := range map[string]struct {
		line, column int
		e            api.Errno
	}{
		"enum E { }": {1, 10, api.ErrSyntax}, "enum E { true }": {1, 10, api.ErrSyntax}, "enum E{A null}": {1, 10, api.ErrSyntax}, "type T { f() : Int }": {1, 12, api.ErrSyntax}, "scalar S": {1, 1, api.ErrSyntax}, "": {1, 1, api.ErrSyntax}, "\"enum\" E{A}": {1, 1, api.ErrSyntax}, "{": {1, 1, api.ErrSyntax}, "enum": {1, 5, api.ErrSyntax}, "enum E{A": {1, 9, api.ErrSyntax}, "enum E{A\n1}": {2, 1, api.ErrSyntax}, "enum E{A} x": {1, 11, api.ErrSyntax}, "type T{}": {1, 8, api.ErrSyntax}, "input I{}": {1, 9, api.ErrSyntax}, "input I{a Int}": {1, 11, api.ErrSyntax}, "input I{a:Int=$x}": {1, 15, api.ErrSyntax}, "input I{a:Int@d(x:$y)}": {1, 19, api.ErrSyntax}, "input I{a(b:Int):Int}": {1, 10, api.ErrSyntax}, "type T{a:Int=1}": {1, 13, api.ErrSyntax}, "type T implements X{a:Int}": {1, 8, api.ErrSyntax}, "extend type T{a:Int}": {1, 1, api.ErrSyntax}, "type T{a}": {1, 9, api.ErrSyntax}, "type T{a(b:Int}": {1, 15, api.ErrSyntax}, "type T{\"d\" a:Int}": {1, 8, api.ErrSyntax}, "input I{a:Int @d = 1}": {1, 18, api.ErrSyntax},
		"type T{a:Int} ?": {1, 15, api.ErrToken}, "input I{a:Int=9223372036854775808}": {1, 15, api.ErrNumber}, "input I{a:[[[[[[[[[I": {1, 19, api.ErrNest}, "input I{a:I={b:1 b:1}}": {1, 18, api.ErrTwice}, "enum E @d(a:1 a:1){A}": {1, 15, api.ErrTwice}, "enum E{\xff": {0, 0, api.ErrUtf}, strings.Repeat(" ", api.MaxBytes+1): {0, 0, api.ErrMany}, strings.Repeat("a\n", 1025): {1025, 1, api.ErrFuel},
	} {
		l, line, column, e := Parse(s)
		if l != nil || line != want.line || column != want.column || e != want.e {
			t.Errorf("%.40q %d %d %d", s, line, column, int(e))
		}
	}
}

// P20.2: what may be, changed in one thing.
func TestCheck(t *testing.T) {
	fresh := func() []api.Def {
		l, _, _, e := Parse("enum E @d(x: 1) { A B } input I { a: Int = 1 @d b: Int } type T { f(x: E y: E): String! @d g: T }")
		if e != api.OK {
			t.Fatal(e)
		}
		return l
	}
	if Check(fresh()) != api.OK || !Same(fresh(), fresh()) || Check(nil) != api.ErrBad || !Same(nil, []api.Def{}) {
		t.Error("fresh")
	}
	free := []api.Cell{{Kind: api.Var, Text: "x"}}
	for i, turn := range []func(l []api.Def){
		func(l []api.Def) { l[0].Kind = 0 }, func(l []api.Def) { l[0].Kind = 4 }, func(l []api.Def) { l[0].Name = "" }, func(l []api.Def) { l[0].Dirs[0].Name = "" }, func(l []api.Def) { l[0].Dirs[0].Args[0].Value = free }, func(l []api.Def) { l[0].Names[1] = "true" }, func(l []api.Def) { l[0].Names[1] = "" }, func(l []api.Def) { l[0].Names = nil }, func(l []api.Def) { l[0].Inputs = l[1].Inputs }, func(l []api.Def) { l[0].Fields = l[2].Fields },
		func(l []api.Def) { l[1].Inputs[0].Name = "" }, func(l []api.Def) { l[1].Inputs[0].Type.Name = "" }, func(l []api.Def) { l[1].Inputs[0].Type.Wraps = []uint8{3} }, func(l []api.Def) { l[1].Inputs[0].Has = false }, func(l []api.Def) { l[1].Inputs[1].Has = true }, func(l []api.Def) { l[1].Inputs[0].Default = free }, func(l []api.Def) { l[1].Inputs[0].Dirs[0].Name = "" }, func(l []api.Def) { l[1].Inputs = nil }, func(l []api.Def) { l[1].Names = []string{"A"} }, func(l []api.Def) { l[1].Fields = l[2].Fields },
		func(l []api.Def) { l[2].Fields[0].Name = "-" }, func(l []api.Def) { l[2].Fields[0].Type.Name = "" }, func(l []api.Def) { l[2].Fields[0].Args[0].Name = "" }, func(l []api.Def) { l[2].Fields[0].Dirs[0].Name = "" }, func(l []api.Def) { l[2].Fields = nil }, func(l []api.Def) { l[2].Names = []string{"A"} }, func(l []api.Def) { l[2].Inputs = l[1].Inputs },
	} {
		l := fresh()
		turn(l)
		if Check(l) != api.ErrBad || Same(l, fresh()) {
			t.Error(i)
		}
	}
	for _, s := range []string{"enum E { A }", "input I { a: Int }", "type T { a: Int }"} {
		if l, _, _, e := Parse(s); e != api.OK || Check(l) != api.OK {
			t.Error(s, e)
		}
	}
	twice := fresh()
	twice[0].Names[1] = "A"
	if Check(append(twice, twice...)) != api.OK {
		t.Error("twice")
	}
}
