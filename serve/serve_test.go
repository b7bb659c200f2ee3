package serve

import (
	"strconv"
	"strings"
	"testing"
	"unicode/utf8"

	"provost/api"
	"provost/cell"
	"provost/doc"
	"provost/json"
	"provost/print"
	"provost/schema"
	"provost/sdl"
	"provost/undo"
)

const base = `type T @table(most: 2) { id: ID! n: Int } type Query { t(id: ID!): T @get(of: "T") } type Mutation { m(id: ID!, n: Int): T @create(of: "T") }`

const wide = `enum E { A B } input I @oneOf { n: Int @range(max: 9) e: E } input R @rule(left: "a", right: "b", is: LE) { id: ID! @pattern(is: "[a-z]+") a: Int = 1 b: Int = 2 l: [Int!] @length(max: 2) @range(min: 0) }
type T @table(most: 3, unique: ["n"]) { id: ID! n: Int e: E a: Int b: Int l: [Int!] u: T! @link(by: "id") }
type Query { t(id: ID!): T @get(of: "T") need(id: ID!): T! @get(of: "T") all(e: E, n: Int = null): [T!]! @list(of: "T") }
type Mutation { c(in: R!, n: Int): T @create(of: "T") v(id: ID!, in: I): T @update(of: "T", add: ["n"]) w(id: ID!, n: Int @range(min: -5)): T @update(of: "T", add: ["n"]) d(id: ID!): T! @delete(of: "T") }`

func begin(t *testing.T, text string) (api.Schema, api.Store) {
	t.Helper()
	s, st, e := Begin(text)
	if e != api.OK {
		t.Fatal(e)
	}
	return s, st
}

// ask is a request of a query and of variables, if these are told.
func ask(query, variables string) string {
	q, _ := json.Quote(query)
	if variables != "" {
		variables = `,"variables":` + variables
	}
	return `{"query":` + q + variables + `}`
}

// hold holds a response; it is the same for the query's printed text (V8), and what is refused, and a query, changes nothing.
func hold(t *testing.T, s api.Schema, st api.Store, request, want string) api.Store {
	t.Helper()
	was := undo.Twin(st)
	got, out, e := Answer(s, st, request)
	if e != api.OK || got != want {
		t.Errorf("%s\n got %s\nwant %s", request, got, want)
	}
	if !undo.Same(st, was) || len(out.Log) != 0 {
		t.Error(request, "store")
	}
	if !strings.Contains(got, `"data"`) && !undo.Alike(out, st) {
		t.Error(request, "changed")
	}
	v, e := json.Read(request)
	if e != api.OK {
		return out
	}
	at, is := cell.Member(v, 0, "query")
	if !is {
		return out
	}
	d, _, _, e := doc.Parse(v[at].Text)
	if e != api.OK {
		return out
	}
	v[at].Text, _ = print.Doc(d)
	again, e := json.Write(v)
	text, other, _ := Answer(s, st, again)
	if e != api.OK || text != want || !undo.Same(other, out) {
		t.Error(again, text)
	}
	return out
}

// The examples of the chapter, and of the whole.
func TestExamples(t *testing.T) {
	s, st := begin(t, base)
	for request, want := range map[string]string{
		ask("{ t(id: 1) { id } }", ""): `{"data":{"t":null}}`, `{"query":"{ t"}`: `{"errors":[{"code":"BAD_SYNTAX","line":1,"column":4}]}`, ask("{ x }", ""): `{"errors":[{"code":"BAD_DOCUMENT","rule":5}]}`, `{}`: `{"errors":[{"code":"BAD_REQUEST"}]}`,
		ask("query ($v: ID!) { t(id: $v) { id } }", `{"v":true}`): `{"errors":[{"code":"BAD_VALUE","path":["v"]}]}`,
	} {
		hold(t, s, st, request, want)
	}
	s, st = begin(t, `type T @table(most: 2) { id: ID! n: Int } type Query { t(id: ID!): T @get(of: "T") } type Mutation { m(id: ID!, n: Int @range(min: 0)): T @create(of: "T") u(id: ID!, n: Int): T @update(of: "T", add: ["n"]) }`)
	st = hold(t, s, st, ask("mutation { m(id: 1, n: 3) { id n } }", ""), `{"data":{"m":{"id":"1","n":3}}}`)
	st = hold(t, s, st, ask("mutation { m(id: 1) { id } u(id: 1, n: 4) { n } }", ""), `{"errors":[{"code":"DUPLICATE","path":["m"]}],"data":{"m":null,"u":{"n":7}}}`)
	st = hold(t, s, st, ask("mutation { m(id: 2, n: -1) { id } u(id: 1, n: 4) { n } }", ""), `{"errors":[{"code":"RANGE","path":["m","n"],"directive":"range"}]}`)
	hold(t, s, st, ask("{ t(id: 1) { n ...F } } fragment F on T { k: __typename }", ""), `{"data":{"t":{"n":7,"k":"T"}}}`)
	hold(t, s, st, ask("{ t(id: 1) }", ""), `{"errors":[{"code":"BAD_DOCUMENT","rule":5}]}`)
	hold(t, s, st, ask("query ($i: ID!) { t(id: $i) { id } }", ""), `{"errors":[{"code":"BAD_VALUE","path":["i"]}]}`)
}

// P31.2: each step, and each of its codes.
func TestSteps(t *testing.T) {
	s, st := begin(t, wide)
	one := func(code string) string { return `{"errors":[{"code":"` + code + `"}]}` }
	deep := func(n int) string { return strings.Repeat("{ u ", n) + "{ id }" + strings.Repeat(" }", n) }
	var wideQuery strings.Builder
	for i := range 257 {
		wideQuery.WriteString("a" + strconv.Itoa(i) + ":__typename ")
	}
	for request, want := range map[string]string{
		strings.Repeat(" ", api.MaxBytes+1): one("TOO_LONG"), "\xff": one("BAD_UTF8"), "{": one("BAD_JSON"), "": one("BAD_JSON"), "1.5": one("BAD_NUMBER"), `{"a":1,"a":1}`: one("BAD_JSON"), `{"":1}`: one("BAD_JSON"), strings.Repeat("[", 17): one("TOO_DEEP"), "[" + strings.Repeat("0,", 2048): one("TOO_LONG"),
		`[]`: one("BAD_REQUEST"), `1`: one("BAD_REQUEST"), `{"query":1}`: one("BAD_REQUEST"), `{"query":null}`: one("BAD_REQUEST"), `{"query":"{ x }","x":1}`: one("BAD_REQUEST"), `{"query":"{ x }","operationName":1}`: one("BAD_REQUEST"), `{"query":"{ x }","variables":[]}`: one("BAD_REQUEST"), `{"operationName":"A"}`: one("BAD_REQUEST"), `{"query":"{__typename}","operationName":null,"variables":null}`: `{"data":{"__typename":"Query"}}`,
		ask("{ ? }", ""): `{"errors":[{"code":"BAD_TOKEN","line":1,"column":3}]}`, ask("\n{", ""): `{"errors":[{"code":"BAD_SYNTAX","line":2,"column":2}]}`, ask(strings.Repeat("a ", 1025), ""): `{"errors":[{"code":"OUT_OF_FUEL","line":1,"column":2049}]}`, ask(strings.Repeat("{a", 17), ""): `{"errors":[{"code":"TOO_DEEP","line":1,"column":33}]}`, ask("{t(id:9223372036854775808){id}}", ""): `{"errors":[{"code":"BAD_NUMBER","line":1,"column":7}]}`, ask("{t(id:1 id:2){id}}", ""): `{"errors":[{"code":"TWICE","line":1,"column":9}]}`,
		ask("{ ...F }", ""): `{"errors":[{"code":"BAD_DOCUMENT","rule":3}]}`, ask("fragment F on T { id }", ""): `{"errors":[{"code":"BAD_DOCUMENT","rule":1}]}`,
		ask("query A { __typename } query B { __typename }", ""): one("NO_OPERATION"), `{"query":"query A { a: __typename } query B { b: __typename }","operationName":"B"}`: `{"data":{"b":"Query"}}`, `{"query":"query A { a: __typename }","operationName":"B"}`: one("NO_OPERATION"), `{"query":"{ a: __typename }","operationName":""}`: `{"data":{"a":"Query"}}`, `{"query":"query A { a: __typename }","operationName":""}`: one("NO_OPERATION"),
		ask("query ($x: E) { all(e: $x) { id } }", `{"x":"C"}`): `{"errors":[{"code":"BAD_VALUE","path":["x"]}]}`, ask("query ($x: E = A $y: Int!) { all(e: $x, n: $y) { id } }", ""): `{"errors":[{"code":"BAD_VALUE","path":["y"]}]}`, ask("mutation ($x: R!) { c(in: $x) { id } }", `{"x":{"id":"a","l":[1,"2"]}}`): `{"errors":[{"code":"BAD_VALUE","path":["x","l",1]}]}`, ask("query ($x: E) { all(e: $x) { id } }", `{"x":"A","z":1}`): `{"data":{"all":[]}}`,
		ask("{ t(id: 1) "+deep(7)+" }", ""): one("TOO_DEEP"), ask("{ t(id: 1) "+deep(5)+" }", ""): `{"data":{"t":null}}`, `{"query":"{` + wideQuery.String() + `}"}`: one("TOO_MANY_FIELDS"),
		ask("{ t(id: 1) { u { ...F8 } } } "+fragments(8), ""):                `{"errors":[{"code":"TOO_MANY_FIELDS","rule":11}]}`,
		ask("mutation ($x: Int) { v(id: 1, in: {n: $x, e: A}) { id } }", ""): `{"errors":[{"code":"NO_RECORD","path":["v"]}],"data":{"v":null}}`,
	} {
		hold(t, s, st, request, want)
	}
}

// fragments are such of which each has two of the one ahead.
func fragments(n int) string {
	out := "fragment F0 on T { id }"
	for i := 1; i <= n; i++ {
		f := "F" + strconv.Itoa(i-1)
		out += " fragment F" + strconv.Itoa(i) + " on T { a: u { ..." + f + " } b: u { ..." + f + " } }"
	}
	return out
}

// P31.2, V2: what is broken, in order.
func TestBroken(t *testing.T) {
	s, st := begin(t, wide)
	hold(t, s, st, ask(`mutation { k: c(in: {id: "A", a: 3, l: [1, -1, 2]}) { id } v(id: 1, in: {n: 10}) { id } w(id: 1, n: -6) { id } __typename x: v(id: 1, in: {}) { id } }`, ""), `{"errors":[`+
		`{"code":"RULE","path":["k","in"],"directive":"rule"},{"code":"PATTERN","path":["k","in","id"],"directive":"pattern"},{"code":"LENGTH","path":["k","in","l"],"directive":"length"},{"code":"RANGE","path":["k","in","l",1],"directive":"range"},`+
		`{"code":"RANGE","path":["v","in","n"],"directive":"range"},{"code":"RANGE","path":["w","n"],"directive":"range"},{"code":"ONE_OF","path":["x","in"],"directive":"oneOf"}]}`)
	hold(t, s, st, ask(`mutation { c(in: {id: "a"}) { id } v(id: 1, in: {n: 10}) @skip(if: true) { id } }`, ""), `{"data":{"c":{"id":"a"}}}`)
	hold(t, s, st, `{"query":"query A { all { id } } mutation B { v(id: 1, in: {}) { id } }","operationName":"A"}`, `{"data":{"all":[]}}`)
	hold(t, s, st, ask(`mutation { __typename w(id: 1, n: -6) { id } }`, ""), `{"errors":[{"code":"RANGE","path":["w","n"],"directive":"range"}]}`)
	hold(t, s, st, ask(`query ($x: E $y: Int) { all(e: $x, n: $y) { id } }`, `{"y":"z"}`), `{"errors":[{"code":"BAD_VALUE","path":["y"]}]}`)
	// A variable's Null stands where none may be: that value is bad.
	hold(t, s, st, ask(`query ($x: ID = 1) { k: t(id: $x) { id } }`, `{"x":null}`), `{"errors":[{"code":"BAD_VALUE","path":["k","id"]}]}`)
	hold(t, s, st, ask(`query ($x: ID = 1) { k: t(id: $x) { id } }`, ""), `{"data":{"k":null}}`)
	hold(t, s, st, ask(`mutation ($x: ID = 1) { c(in: {id: $x}) { id } }`, `{"x":null}`), `{"errors":[{"code":"BAD_VALUE","path":["c","in","id"]}]}`)
}

// As much as is too much with all others.
func TestTooLarge(t *testing.T) {
	s, st := begin(t, `type T @table(most: 2) { id: ID! a: [Int] b: [Int] } type Query { t(id: ID!): T @get(of: "T") } type Mutation { c(id: ID!, a: [Int], b: [Int]): T @create(of: "T") u(id: ID!, b: [Int]): T @update(of: "T") }`)
	zeros := `{"v":[0` + strings.Repeat(",0", 1499) + `]}`
	hold(t, s, st, ask("mutation ($v: [Int]) { c(id: 1, a: $v, b: $v) { id } }", zeros), `{"errors":[{"code":"TOO_LARGE","path":["c"]}]}`)
	hold(t, s, st, ask("mutation ($v: [Int]) { c(id: 1, a: $v) { id } u(id: 1, b: $v) { id } }", zeros), `{"errors":[{"code":"TOO_LARGE","path":["u"]}],"data":{"c":{"id":"1"},"u":null}}`)
	s2, st2 := begin(t, `type T @table(most: 2) { id: ID! a: [[Int]] } type Query { t(id: ID!): T @get(of: "T") } type Mutation { d(id: ID!): T @delete(of: "T") c(a: [[Int]], id: ID!): T @create(of: "T") }`)
	hold(t, s2, st2, ask("mutation ($x: ID = 1) { c(id: $x) { id } }", `{"x":null}`), `{"errors":[{"code":"BAD_VALUE","path":["c","id"]}]}`)
	hold(t, s2, st2, ask("mutation ($x: ID = 1) { c(a: [1], id: $x) { id } }", `{"x":null}`), `{"errors":[{"code":"BAD_VALUE","path":["c","id"]}]}`)
	hold(t, s2, st2, ask("mutation ($v: [[Int]]) { c(id: 1, a: $v) { id } }", zeros), `{"errors":[{"code":"TOO_LARGE","path":["v",1023]}]}`)
	hold(t, s, st, ask("query ($v: ID!) { t(id: $v) { id } }", `{"v":`+strings.Repeat("[", 14)+strings.Repeat("]", 14)+`}`), `{"errors":[{"code":"BAD_VALUE","path":["v"]}]}`)
}

// P31.2, P31.4: scripts, and errors.
func TestScript(t *testing.T) {
	s, st := begin(t, wide)
	l := []string{ask(`mutation { c(in: {id: "a"}, n: 1) { id u { id } } }`, ""), ask(`mutation { c(in: {id: "b"}, n: 1) { id } d: c(in: {id: "b"}) { a b l } }`, ""), "{", ask("{ all { id n } a: all(n: 1) { id } need(id: \"b\") { u { u { id } } } }", ""), ask(`mutation { d(id: "q") { id } w(id: "a", n: 4) { n } }`, ""), ask(`mutation ($n: Int) { w(id: "b", n: $n) { n } x: w(id: "a", n: 2147483647) { n } d(id: "a") { n u { id } } }`, `{"n":1}`)}
	want := []string{`{"data":{"c":{"id":"a","u":{"id":"a"}}}}`, `{"errors":[{"code":"DUPLICATE","path":["c"]}],"data":{"c":null,"d":{"a":1,"b":2,"l":null}}}`, `{"errors":[{"code":"BAD_JSON"}]}`, `{"data":{"all":[{"id":"a","n":1},{"id":"b","n":null}],"a":[{"id":"a"}],"need":{"u":{"u":{"id":"b"}}}}}`,
		`{"errors":[{"code":"NO_RECORD","path":["d"]}],"data":null}`, `{"errors":[{"code":"NULL_VALUE","path":["w"]},{"code":"OVERFLOW","path":["x"]},{"code":"NO_LINK","path":["d","u"]}],"data":null}`}
	got, out, e := Script(s, st, l)
	if e != api.OK || strings.Join(got, "\n") != strings.Join(want, "\n") {
		t.Error(strings.Join(got, "\n"), e)
	}
	if len(out.Tables[0].Rows) != 1 || out.Tables[0].Rows[0].Id != "b" {
		t.Error(out)
	}
	for half := range l {
		a, mid, _ := Script(s, st, l[:half])
		b, end, e := Script(s, mid, l[half:])
		if e != api.OK || strings.Join(append(a, b...), "\n") != strings.Join(want, "\n") || !undo.Same(end, out) {
			t.Error(half, e)
		}
	}
	one := st
	for i, r := range l {
		text, next, e := Answer(s, one, r)
		if e != api.OK || text != want[i] {
			t.Error(text)
		}
		one = next
	}
	many := make([]string, api.MaxScript+1)
	if got, out, e := Script(s, st, many); got != nil || out.Tables != nil || e != api.ErrMany {
		t.Error(e)
	}
	if got, _, e := Script(s, st, many[1:]); len(got) != api.MaxScript || e != api.OK {
		t.Error(e)
	}
	if got, out, e := Script(s, api.Store{}, many); got != nil || out.Tables != nil || e != api.ErrBad {
		t.Error(e)
	}
	if got, out, e := Answer(s, api.Store{}, "{}"); got != "" || out.Tables != nil || e != api.ErrBad {
		t.Error(e)
	}
}

// P31.1
func TestBegin(t *testing.T) {
	for text, want := range map[string]api.Errno{"x": api.ErrSyntax, "?": api.ErrToken, "\xff": api.ErrUtf, "type T @table(most: 1) { id: ID! }": api.ErrNone, "type Query { x: Int }": api.ErrSchema, "": api.ErrSyntax} {
		if s, st, e := Begin(text); s.Defs != nil || st.Tables != nil || e != want {
			t.Error(text, int(e))
		}
	}
	s, st := begin(t, base)
	if empty, _ := undo.New(s); !undo.Same(st, empty) {
		t.Error(st)
	}
}

func TestWrite(t *testing.T) {
	for _, c := range []struct {
		data   []api.Cell
		faults []api.Fault
		want   string
	}{
		{nil, nil, `{}`}, {[]api.Cell{{}}, nil, `{"data":null}`}, {[]api.Cell{{Kind: api.Object}, {Kind: 9}}, nil, `{"data":{}}`}, {[]api.Cell{{Kind: api.Enum, Text: "A"}}, nil, `{"data":"A"}`}, {[]api.Cell{{Kind: api.Var, Text: "A"}}, nil, `{"data":null}`}, {[]api.Cell{{Kind: 9, Many: 3}}, nil, `{"data":null}`}, {[]api.Cell{{Kind: api.Bool, Int: -7}}, nil, `{"data":true}`}, {[]api.Cell{{Kind: api.Bool}}, nil, `{"data":false}`}, {[]api.Cell{{Kind: api.Text, Text: "\xff"}}, nil, `{"data":""}`}, {[]api.Cell{{Kind: api.Text, Text: "\"\n"}}, nil, `{"data":"\"\n"}`},
		{[]api.Cell{{Kind: api.List, Many: 1 << 62}, {Kind: api.Int, Int: -1 << 63}, {Kind: api.Object, Many: 2}, {Name: "\xff", Kind: api.List, Many: -5}}, nil, `{"data":[-9223372036854775808,{"":[]}]}`}, {[]api.Cell{{Kind: api.Object, Many: 3}, {Name: "a"}, {Name: "a"}}, nil, `{"data":{"a":null,"a":null}}`},
		{nil, []api.Fault{{}, {Code: "A", Path: []api.Step{{Name: "x", At: 4}, {At: -3}}, Dir: "d", Rule: -1, Line: 2, Col: 0}, {Code: "\xff", Line: 0, Col: 9}}, `{"errors":[{"code":""},{"code":"A","path":["x",-3],"directive":"d","rule":-1,"line":2,"column":0},{"code":""}]}`},
	} {
		if got := Write(c.data, c.faults); got != c.want {
			t.Error(got, c.want)
		}
	}
	deep := make([]api.Cell, 1<<16)
	for i := range deep {
		deep[i] = api.Cell{Kind: api.List, Many: 1}
	}
	if got := Write(deep, nil); got != `{"data":`+strings.Repeat("[", 1<<16)+strings.Repeat("]", 1<<16)+`}` {
		t.Error(len(got))
	}
}

// plainQuote is a text as JSON, code point by code point; of what is no text the empty one.
func plainQuote(s string) string {
	if !utf8.ValidString(s) {
		return `""`
	}
	out := `"`
	for _, r := range s {
		switch {
		case r == '"' || r == '\\':
			out += `\` + string(r)
		case r == '\n':
			out += `\n`
		case r < 32:
			out += `\u00` + string("0123456789abcdef"[r>>4]) + string("0123456789abcdef"[r&15])
		default:
			out += string(r)
		}
	}
	return out + `"`
}

// P31.1: texts of any size are told, whatever stands where MaxBytes of them end; what is no text is the empty one, wherever it is broken.
func TestWriteLong(t *testing.T) {
	tails := []string{"", "b", "\u00e9", "\u20ac", "\U0001f600", "\U0001f600\u20ac\u00e9b", "\"\\", "\n", "\x01\x1f",
		"\xff", "\x80", "\xc3", "\xe2\x82", "\xf0\x9f\x98", "\x80\x80\x80\x80\x80", "\xed\xa0\x80", "\xc0\x80", "\xf4\x90\x80\x80", "b\xe2\x82b"}
	for _, times := range []int{1, 2, 3} {
		for less := range 9 {
			head := strings.Repeat("a", times*api.MaxBytes-less)
			for _, tail := range tails {
				for _, behind := range []string{"", "c", strings.Repeat("c", api.MaxBytes)} {
					want := plainQuote(tail)
					if utf8.ValidString(tail) {
						want = `"` + head + want[1:len(want)-1] + behind + `"`
					}
					if got := Write([]api.Cell{{Kind: api.Text, Text: head + tail + behind}}, nil); got != `{"data":`+want+`}` {
						t.Errorf("%d bytes, %q, %d bytes: %d bytes", len(head), tail, len(behind), len(got))
					}
				}
			}
		}
	}
	for _, s := range []string{"\u00e9", "\u20ac", "\U0001f600", "a\U0001f600", "\x00", "\x80", "\xbf\xbf\xbf", "\xf0"} {
		s = strings.Repeat(s, 2*api.MaxBytes+1)
		want := s
		switch {
		case s[0] == 0:
			want = strings.Repeat(`\u0000`, len(s))
		case !utf8.ValidString(s):
			want = ""
		}
		if got := Write([]api.Cell{{Kind: api.Object, Many: 1}, {Name: s, Kind: api.Enum, Text: s}}, []api.Fault{{Code: s, Path: []api.Step{{Name: s}}, Dir: s}}); got != `{"errors":[{"code":"`+want+`","path":["`+want+`"],"directive":"`+want+`"}],"data":{"`+want+`":"`+want+`"}}` {
			t.Errorf("%.8q: %d bytes", s, len(got))
		}
	}
}

// P31.2: a schema that is handed in may have names of more than MaxBytes bytes: an answer tells them.
func TestAnswerLongNames(t *testing.T) {
	l, _, _, e := sdl.Parse(`enum E { V } type L @table(most: 2) { id: ID! e: E } type T @table(most: 2) { id: ID! x: ID u: L @link(by: "x") } type Query { t(id: ID!): T @get(of: "T") } type Mutation { m(id: ID!, x: ID): T @create(of: "T") }`)
	if e != api.OK {
		t.Fatal(e)
	}
	long := strings.Repeat("L", api.MaxBytes+1)
	l[0].Names[0], l[1].Name, l[2].Fields[2].Type.Name = long, long, long
	s, _, e := schema.Build(l)
	if e != api.OK {
		t.Fatal(e)
	}
	st, _ := undo.New(s)
	st.Tables[0].Rows = []api.Record{{Id: "1", Data: []api.Cell{{Kind: api.Object, Many: 2}, {Name: "id", Kind: api.Text, Text: "1"}, {Name: "e", Kind: api.Enum, Text: long}}}}
	hold(t, s, st, ask("mutation { m(id: 1, x: 1) { u { __typename e } } }", ""), `{"data":{"m":{"u":{"__typename":"`+long+`","e":"`+long+`"}}}}`)
}

// P31.3: what is handed in is only read, and what is answered is new memory.
func TestMemory(t *testing.T) {
	s, st := begin(t, base)
	_, one, _ := Answer(s, st, ask("mutation { m(id: 1, n: 2) { id } }", ""))
	was := undo.Twin(one)
	for _, request := range []string{ask("{ t(id: 1) { n } }", ""), "{", ask("mutation { m(id: 2) { id } }", "")} {
		_, next, e := Answer(s, one, request)
		if e != api.OK {
			t.Fatal(e)
		}
		next.Tables[0].Rows[0].Data[2].Int, next.Tables[0].Name = 9, "Z"
		if !undo.Same(one, was) {
			t.Fatal("memory is shared", request)
		}
	}
	_, none, _ := Script(s, one, nil)
	none.Tables[0].Rows[0].Data[2].Int = 9
	if !undo.Same(one, was) {
		t.Error("memory is shared")
	}
}
