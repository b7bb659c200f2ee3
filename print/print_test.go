package print

import (
	"testing"

	"provost/api"
	"provost/doc"
	"provost/sdl"
)

// P21.1, P21.3, V8: texts in one way, and that they are read as the same.
func TestDoc(t *testing.T) {
	for s, want := range map[string]string{
		"{a(b:1)}": "{ a ( b : 1 ) }", "query{a}": "{ a }", "mutation{a}": "mutation { a }", "mutation M {a}": "mutation M { a }", "query Q{a}": "query Q { a }", "query($x:A){a}": "query ( $ x : A ) { a }", "query($x:[Int!]!=[1,2]$y:A){a}": "query ( $ x : [ Int ! ] ! = [ 1 2 ] $ y : A ) { a }",
		"{a:b@d{c,d(x:{y:$z})}...F@d(e:\"\\u0001\"),...on T{x}...{y}... @d{z}} fragment F on T{a}": "{ a : b @ d { c d ( x : { y : $ z } ) } ... F @ d ( e : \"\\u0001\" ) ... on T { x } ... { y } ... @ d { z } } fragment F on T { a }",
		"fragment F on T{a} query A{a} {b} mutation{c}":                                            "query A { a } { b } mutation { c } fragment F on T { a }",
	} {
		d, _, _, e := doc.Parse(s)
		if e != api.OK {
			t.Fatal(s, e)
		}
		got, e := Doc(d)
		if e != api.OK || got != want {
			t.Errorf("%q %v", got, e)
		}
		again, _, _, e := doc.Parse(got)
		if e != api.OK || !doc.Same(d, again) {
			t.Errorf("%q %v", got, e)
		}
	}
	if s, e := Doc(api.Doc{}); s != "" || e != api.ErrBad {
		t.Error(s, e)
	}
}

func TestSdl(t *testing.T) {
	for s, want := range map[string]string{
		"enum E{A}": "enum E { A }", "input I{a:Int}type T{f(a:Int):Int}": "input I { a : Int } type T { f ( a : Int ) : Int }", "enum E@x@y(a:1){A,B}": "enum E @ x @ y ( a : 1 ) { A B }", "input I@oneOf{a:Int=1@range(min:0)b:[I!]}": "input I @ oneOf { a : Int = 1 @ range ( min : 0 ) b : [ I ! ] }",
		"type T{f(x:E=A y:Int@d):String!@get(of:\"T\")g:T}enum E{A}": "type T { f ( x : E = A y : Int @ d ) : String ! @ get ( of : \"T\" ) g : T } enum E { A }",
	} {
		l, _, _, e := sdl.Parse(s)
		if e != api.OK {
			t.Fatal(s, e)
		}
		got, e := Sdl(l)
		if e != api.OK || got != want {
			t.Errorf("%q %v", got, e)
		}
		again, _, _, e := sdl.Parse(got)
		if e != api.OK || !sdl.Same(l, again) {
			t.Errorf("%q %v", got, e)
		}
	}
	if s, e := Sdl(nil); s != "" || e != api.ErrBad {
		t.Error(s, e)
	}
	if s, e := Sdl([]api.Def{{Kind: 7, Name: "a"}}); s != "" || e != api.ErrBad {
		t.Error(s, e)
	}
}

func TestTypeAndValue(t *testing.T) {
	if s, e := Type(api.Ref{Name: "Int", Wraps: []uint8{1, 2}}); s != "[ Int ] !" || e != api.OK {
		t.Error(s, e)
	}
	if s, e := Value([]api.Cell{{Kind: api.List, Many: 2}, {Kind: api.Text, Text: "x"}, {Kind: api.Var, Text: "v"}}); s != `[ "x" $ v ]` || e != api.OK {
		t.Error(s, e)
	}
	if s, e := Type(api.Ref{}); s != "" || e != api.ErrBad {
		t.Error(s, e)
	}
	for _, v := range [][]api.Cell{nil, {{Kind: api.Enum, Text: "true"}}} {
		if s, e := Value(v); s != "" || e != api.ErrBad {
			t.Error(s, e)
		}
	}
}
