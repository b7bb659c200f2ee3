package json

import (
	"strings"
	"testing"

	"provost/api"
	"provost/cell"
)

// P4.1: the example, and each kind.
func TestWrite(t *testing.T) {
	v := []api.Cell{{Kind: api.Object, Many: 2}, {Name: "a", Kind: api.Int, Int: 1}, {Name: "b", Kind: api.List, Many: 2}, {}, {Kind: api.Text, Text: "x"}}
	if s, e := Write(v); s != `{"a":1,"b":[null,"x"]}` || e != api.OK {
		t.Error(s, e)
	}
	v = []api.Cell{{Kind: api.List, Many: 5}, {Kind: api.Bool}, {Kind: api.Bool, Int: 1}, {Kind: api.Int, Int: -1 << 63}, {Kind: api.List}, {Kind: api.Object}}
	if s, e := Write(v); s != `[false,true,-9223372036854775808,[],{}]` || e != api.OK {
		t.Error(s, e)
	}
	for _, v := range [][]api.Cell{nil, {{Kind: api.Enum, Text: "A"}}, {{Kind: api.Var, Text: "A"}}, {{Kind: api.List, Many: 1}}, {{Kind: api.Text, Text: "\xff"}}} {
		if s, e := Write(v); s != "" || e != api.ErrBad {
			t.Error(s, e)
		}
	}
}

func TestQuote(t *testing.T) {
	want := `"\u0000\u0001\b\t\n\u000b\f\r\u001f \"\\/` + "\x7f\u00e9\U0001f600" + `"`
	if s, e := Quote("\x00\x01\b\t\n\v\f\r\x1f \"\\/\x7f\u00e9\U0001f600"); s != want || e != api.OK {
		t.Error(s, e)
	}
	if _, e := Quote("\xff"); e != api.ErrUtf {
		t.Error(e)
	}
	if _, e := Quote(strings.Repeat("a", api.MaxBytes+1)); e != api.ErrMany {
		t.Error(e)
	}
}

// P4.2: each error, where it is the first one.
func TestReadErrors(t *testing.T) {
	deep := strings.Repeat("[", 17)
	many := "[" + strings.Repeat("0,", api.MaxCells-1)
	for s, want := range map[string]api.Errno{
		"1.0": api.ErrNumber, "1e2": api.ErrNumber, "1E+2": api.ErrNumber, "-0.0x": api.ErrNumber, "9223372036854775808": api.ErrNumber, "1.5e": api.ErrNumber,
		"01": api.ErrJson, "-": api.ErrJson, "1.": api.ErrJson, "1e": api.ErrJson, "1e+": api.ErrJson, ".5": api.ErrJson, "+1": api.ErrJson, "-x": api.ErrJson, "--1": api.ErrJson,
		`{"a":1,"a":2}`: api.ErrTwice, `{"a":1,"\u0061"`: api.ErrTwice, `{"":1}`: api.ErrBad, `{""`: api.ErrBad,
		`"\ud800"`: api.ErrJson, `"\ud800\u0041"`: api.ErrJson, `"\udc00"`: api.ErrJson, `"\ud800\ud800"`: api.ErrJson, `"\u12g4"`: api.ErrJson, `"\x"`: api.ErrJson, `"\u123`: api.ErrJson, "\"\t\"": api.ErrJson, "\"\x00\"": api.ErrJson, `"a`: api.ErrJson, `"\`: api.ErrJson,
		"[1,]": api.ErrJson, "[,1]": api.ErrJson, "[1 2]": api.ErrJson, "": api.ErrJson, "  ": api.ErrJson, "1 2": api.ErrJson, "[": api.ErrJson, "]": api.ErrJson, "{": api.ErrJson, `{"a"}`: api.ErrJson, `{"a":}`: api.ErrJson, `{"a":1,}`: api.ErrJson, `{a:1}`: api.ErrJson, "{1:1}": api.ErrJson, "tru": api.ErrJson, "True": api.ErrJson, "nul": api.ErrJson, "falsee": api.ErrJson, "\u00a01": api.ErrJson, "\ufeff1": api.ErrJson, "1\x00": api.ErrJson, "\f1": api.ErrJson, "'a'": api.ErrJson, "[1}": api.ErrJson, "NaN": api.ErrJson, "//\n1": api.ErrJson,
		deep: api.ErrNest, strings.Repeat(`{"a":`, 17): api.ErrNest, "\xff": api.ErrUtf, strings.Repeat(" ", api.MaxBytes+1): api.ErrMany,
		many + "0": api.ErrMany, many + "x": api.ErrJson, many + "tx": api.ErrMany, many + "[": api.ErrMany, many + "1.5": api.ErrMany, many: api.ErrJson,
		"[1.5,\xff": api.ErrUtf, `[1.5,x`: api.ErrNumber, `[x,1.5`: api.ErrJson,
	} {
		if v, e := Read(s); e != want || v != nil {
			t.Errorf("%.30q %v %v", s, int(e), int(want))
		}
	}
	// At the 17th bracket that were the 2,049th cell the first error that is named counts.
	if _, e := Read("[" + strings.Repeat("0,", api.MaxCells-16) + strings.Repeat("[", 16)); e != api.ErrNest {
		t.Error(int(e))
	}
}

// P4.2: what is read.
func TestRead(t *testing.T) {
	for s, want := range map[string]string{
		"[ -0 , \"\\ud83d\\ude00\" ]":         "[0,\"\U0001f600\"]",
		"\r\n\t {\"b\" : { } ,\n\"a\":[ ]}\n": `{"b":{},"a":[]}`, "-9223372036854775808": "-9223372036854775808", "0": "0", "true": "true", "null": "null", "false": "false",
		`"\"\\\/\b\f\n\r\t\u00E9\u00e9\uFFFF"`: `"\"\\/` + `\b\f\n\r\t` + "\u00e9\u00e9\uffff" + `"`, `"\u0000\uD800\uDC00"`: `"\u0000` + "\U00010000" + `"`, `"\udbff\udfff\uABCD\uabcd\u0eEfF"`: "\"\U0010ffff\uabcd\uabcd\u0eefF\"", "\" \"": "\" \"", "\"\x7f\"": "\"\x7f\"",
		strings.Repeat("[", 16) + strings.Repeat("]", 16): strings.Repeat("[", 16) + strings.Repeat("]", 16),
		"[[],[],[[]],{\"a\":{\"a\":1}}]":                  "[[],[],[[]],{\"a\":{\"a\":1}}]",
	} {
		v, e := Read(s)
		if e != api.OK || cell.Check(v) != api.OK {
			t.Errorf("%q %v", s, e)
			continue
		}
		got, e := Write(v)
		if e != api.OK || got != want {
			t.Errorf("%q %v", got, e)
		}
		// P4.4: it is read as the same value.
		w, e := Read(got)
		if e != api.OK || !cell.Same(v, w) {
			t.Errorf("%q %v", got, e)
		}
	}
	full := "[0" + strings.Repeat(",0", api.MaxCells-2) + "]"
	if v, e := Read(full); e != api.OK || len(v) != api.MaxCells {
		t.Error(e)
	}
	a, _ := Read("[1]")
	b, _ := Read("[1]")
	a[1].Int = 2
	if b[1].Int != 1 {
		t.Error("memory is shared")
	}
}
