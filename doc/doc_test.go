package doc

import (
	"strings"
	"testing"

	"provost/api"
)

func num(n int64) []api.Cell { return []api.Cell{{Kind: api.Int, Int: n}} }

// P19.1: the examples.
func TestParse(t *testing.T) {
	skip := []api.Dir{{Name: "skip", Args: []api.Arg{{Name: "if", Value: []api.Cell{{Kind: api.Bool, Int: 1}}}}}}
	for s, want := range map[string]api.Doc{
		"{ a b: c(d: 1) { e } ...F ... on T @skip(if: true) { g } }": {Ops: []api.Op{{Kind: api.OpQuery, Many: 4, Sels: []api.Sel{{Kind: api.SelField, Name: "a"}, {Kind: api.SelField, Alias: "b", Name: "c", Args: []api.Arg{{Name: "d", Value: num(1)}}, Many: 1}, {Kind: api.SelField, Name: "e"}, {Kind: api.SelSpread, Name: "F"}, {Kind: api.SelInline, Name: "T", Dirs: skip, Many: 1}, {Kind: api.SelField, Name: "g"}}}}},
		"query Q($x: [Int!] = [1]) { a } fragment F on T { b }": {Ops: []api.Op{{Kind: api.OpQuery, Name: "Q", Vars: []api.Input{{Name: "x", Type: api.Ref{Name: "Int", Wraps: []uint8{2, 1}}, Has: true, Default: []api.Cell{{Kind: api.List, Many: 1}, {Kind: api.Int, Int: 1}}}}, Many: 1, Sels: []api.Sel{{Kind: api.SelField, Name: "a"}}}},
			Frags: []api.Frag{{Name: "F", On: "T", Many: 1, Sels: []api.Sel{{Kind: api.SelField, Name: "b"}}}}},
		"mutation($a:A $b:B=null){on:on ...{true} ...@skip(if:true){x}}":              {Ops: []api.Op{{Kind: api.OpMutation, Vars: []api.Input{{Name: "a", Type: api.Ref{Name: "A"}}, {Name: "b", Type: api.Ref{Name: "B"}, Has: true, Default: []api.Cell{{}}}}, Many: 3, Sels: []api.Sel{{Kind: api.SelField, Alias: "on", Name: "on"}, {Kind: api.SelInline, Many: 1}, {Kind: api.SelField, Name: "true"}, {Kind: api.SelInline, Dirs: skip, Many: 1}, {Kind: api.SelField, Name: "x"}}}}},
		"query query{fragment} {a} fragment mutation on on{a ...query@skip(if:true)}": {Ops: []api.Op{{Kind: api.OpQuery, Name: "query", Many: 1, Sels: []api.Sel{{Kind: api.SelField, Name: "fragment"}}}, {Kind: api.OpQuery, Many: 1, Sels: []api.Sel{{Kind: api.SelField, Name: "a"}}}}, Frags: []api.Frag{{Name: "mutation", On: "on", Many: 2, Sels: []api.Sel{{Kind: api.SelField, Name: "a"}, {Kind: api.SelSpread, Name: "query", Dirs: skip}}}}},
	} {
		d, line, column, e := Parse(s)
		if e != api.OK || line != 0 || column != 0 || !Same(d, want) || Check(d) != api.OK {
			t.Error(s, d, line, column, e)
		}
	}
}

func TestParseErrors(t *testing.T) {
	deep := strings.Repeat("{a", 17)
	for s, want := range map[string]struct {
		line, column int
		e            api.Errno
	}{
		"{ }": {1, 3, api.ErrSyntax}, "query Q": {1, 8, api.ErrSyntax}, "subscription { a }": {1, 1, api.ErrSyntax}, "{ a { } }": {1, 7, api.ErrSyntax}, "": {1, 1, api.ErrSyntax}, "#x\n  ": {2, 3, api.ErrSyntax}, "\n query ($x: Int = $y) { a }": {2, 19, api.ErrSyntax},
		"{a": {1, 3, api.ErrSyntax}, "{a}}": {1, 4, api.ErrSyntax}, "query(){a}": {1, 7, api.ErrSyntax}, "query($x:Int@d){a}": {1, 13, api.ErrSyntax}, "query @d {a}": {1, 7, api.ErrSyntax}, "fragment on on T{a}": {1, 10, api.ErrSyntax}, "fragment F T{a}": {1, 12, api.ErrSyntax}, "fragment F on{a}": {1, 14, api.ErrSyntax}, "fragment F on T @d {a}": {1, 17, api.ErrSyntax}, "{...}": {1, 5, api.ErrSyntax}, "{... on}": {1, 8, api.ErrSyntax}, "{... on T}": {1, 10, api.ErrSyntax}, "{...F{a}}": {1, 6, api.ErrSyntax}, "{a:}": {1, 4, api.ErrSyntax}, "{a:b:c}": {1, 5, api.ErrSyntax}, "{a()}": {1, 4, api.ErrSyntax}, "{a @d(x:1){}}": {1, 12, api.ErrSyntax}, "{1}": {1, 2, api.ErrSyntax}, "\"query\"{a}": {1, 1, api.ErrSyntax}, "a": {1, 1, api.ErrSyntax}, "{a} $": {1, 5, api.ErrSyntax}, "fragment": {1, 9, api.ErrSyntax}, "query ($x Int){a}": {1, 11, api.ErrSyntax}, "query (x:Int){a}": {1, 8, api.ErrSyntax}, "query ($x:Int=){a}": {1, 15, api.ErrSyntax},
		"{a\n?}": {2, 1, api.ErrToken}, "{\u00e9}": {1, 2, api.ErrToken}, deep: {1, 33, api.ErrNest}, "{a(b:9223372036854775808)}": {1, 6, api.ErrNumber}, "{a(b:1\r\nb:2)}": {2, 1, api.ErrTwice}, "{a(b:{c:1 c:1})}": {1, 11, api.ErrTwice}, "{a(b:" + strings.Repeat("[", 17) + "}": {1, 22, api.ErrNest}, "query($x:[[[[[[[[[a": {1, 18, api.ErrNest}, "{a\xff": {0, 0, api.ErrUtf}, strings.Repeat("a", api.MaxBytes+1): {0, 0, api.ErrMany}, strings.Repeat("a\n", 1025): {1025, 1, api.ErrFuel},
		strings.Repeat("{a", 16) + strings.Repeat("}", 16): {0, 0, api.OK},
	} {
		d, line, column, e := Parse(s)
		if line != want.line || column != want.column || e != want.e || e != api.OK && (d.Ops != nil || d.Frags != nil) {
			t.Errorf("%.40q %d %d %d", s, line, column, int(e))
		}
	}
}

// P19.2: what may be, changed in one thing.
func TestCheck(t *testing.T) {
	fresh := func() api.Doc {
		d, _, _, e := Parse("query Q($x: Int = 1 $y: Int) { a: b(c: $x) @d { e } ...F ... on T { g } } fragment F on T { b }")
		if e != api.OK {
			t.Fatal(e)
		}
		return d
	}
	if Check(fresh()) != api.OK || !Same(fresh(), fresh()) || Check(api.Doc{}) != api.ErrBad {
		t.Error("fresh")
	}
	for i, turn := range []func(d *api.Doc){
		func(d *api.Doc) { d.Ops[0].Kind = 3 }, func(d *api.Doc) { d.Ops[0].Kind = 0 }, func(d *api.Doc) { d.Ops[0].Name = "9" }, func(d *api.Doc) { d.Ops[0].Many = 2 }, func(d *api.Doc) { d.Ops[0].Many = 4 }, func(d *api.Doc) { d.Ops[0].Many = 0; d.Ops[0].Sels = nil }, func(d *api.Doc) { d.Ops[0].Many = -1 },
		func(d *api.Doc) { d.Ops[0].Vars[0].Name = "" }, func(d *api.Doc) { d.Ops[0].Vars[0].Type.Name = "" }, func(d *api.Doc) { d.Ops[0].Vars[0].Type.Wraps = []uint8{1, 1} }, func(d *api.Doc) { d.Ops[0].Vars[0].Default = nil }, func(d *api.Doc) { d.Ops[0].Vars[0].Default = []api.Cell{{Kind: api.Var, Text: "x"}} }, func(d *api.Doc) { d.Ops[0].Vars[1].Default = num(1) }, func(d *api.Doc) { d.Ops[0].Vars[1].Dirs = []api.Dir{{Name: "d"}} },
		func(d *api.Doc) { d.Ops[0].Sels[0].Alias = "a-" }, func(d *api.Doc) { d.Ops[0].Sels[0].Name = "" }, func(d *api.Doc) { d.Ops[0].Sels[0].Args[0].Name = "" }, func(d *api.Doc) { d.Ops[0].Sels[0].Args[0].Value = nil }, func(d *api.Doc) { d.Ops[0].Sels[0].Args = append(d.Ops[0].Sels[0].Args, d.Ops[0].Sels[0].Args[0]) }, func(d *api.Doc) { d.Ops[0].Sels[0].Dirs[0].Name = "" }, func(d *api.Doc) { d.Ops[0].Sels[0].Many = -1 }, func(d *api.Doc) { d.Ops[0].Sels[0].Many = 2 }, func(d *api.Doc) { d.Ops[0].Sels[0].Kind = 0 }, func(d *api.Doc) { d.Ops[0].Sels[0].Kind = 4 },
		func(d *api.Doc) { d.Ops[0].Sels[2].Name = "on" }, func(d *api.Doc) { d.Ops[0].Sels[2].Name = "" }, func(d *api.Doc) { d.Ops[0].Sels[2].Alias = "a" }, func(d *api.Doc) { d.Ops[0].Sels[2].Args = []api.Arg{{Name: "a", Value: num(1)}} }, func(d *api.Doc) { d.Ops[0].Sels[2].Many = 1 }, func(d *api.Doc) { d.Ops[0].Sels[3].Name = "-" }, func(d *api.Doc) { d.Ops[0].Sels[3].Alias = "a" }, func(d *api.Doc) { d.Ops[0].Sels[3].Many = 0; d.Ops[0].Many = 4 },
		func(d *api.Doc) { d.Frags[0].Name = "on" }, func(d *api.Doc) { d.Frags[0].On = "" }, func(d *api.Doc) { d.Frags[0].Many = 0 }, func(d *api.Doc) { d.Frags[0].Sels = nil }, func(d *api.Doc) { d.Frags[0].Many = 1 << 62 },
	} {
		d := fresh()
		turn(&d)
		if Check(d) != api.ErrBad {
			t.Error(i)
		}
		if Same(d, fresh()) {
			t.Error(i)
		}
	}
	deep := func(n int) api.Doc {
		op := api.Op{Kind: api.OpQuery, Many: 1}
		for i := range n {
			op.Sels = append(op.Sels, api.Sel{Kind: api.SelField, Name: "a", Many: min(1, n-1-i)})
		}
		return api.Doc{Ops: []api.Op{op}}
	}
	if Check(deep(16)) != api.OK || Check(deep(17)) != api.ErrBad {
		t.Error("deep")
	}
	if !Same(api.Doc{}, api.Doc{Ops: []api.Op{}}) || Same(api.Doc{}, fresh()) {
		t.Error("same")
	}
}
