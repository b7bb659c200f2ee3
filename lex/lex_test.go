package lex

import (
	"slices"
	"strings"
	"testing"

	"provost/api"
)

func tok(kind uint8, text string) api.Token { return api.Token{Kind: kind, Text: text} }
func name(s string) api.Token               { return tok(api.TokName, s) }
func mark(s string) api.Token               { return tok(api.TokPunct, s) }
func str(s string) api.Token                { return tok(api.TokText, s) }
func num(s string) api.Token                { return tok(api.TokInt, s) }

// bare are tokens without their places.
func bare(l []api.Token) []api.Token {
	l = slices.Clone(l)
	for i := range l {
		l[i].At = 0
	}
	return l
}

// P17.1: what texts have, and that it is read again when it is joined (P17.4).
func TestLex(t *testing.T) {
	for s, want := range map[string][]api.Token{
		"{a(b:-1)} #x":    {mark("{"), name("a"), mark("("), name("b"), mark(":"), num("-1"), mark(")"), mark("}")},
		"\"\\u00e9,\", x": {str("\u00e9,"), name("x")}, "": nil, "\ufeff\t ,\r\n#a\"\u00e9\n": nil, "#": nil, "#x\ry": {name("y")}, "# x y !\nz": {name("z")}, "\" a b \"": {str(" a b ")}, "#\ufeff\t\ny": {name("y")},
		"...a....b": nil, "... ...": {mark("..."), mark("...")}, "!$&():=@[]{|}": {mark("!"), mark("$"), mark("&"), mark("("), mark(")"), mark(":"), mark("="), mark("@"), mark("["), mark("]"), mark("{"), mark("|"), mark("}")},
		"_a9 Z__ A\ufeffb": {name("_a9"), name("Z__"), name("A"), name("b")}, "0-1-0 99999999999999999999": {num("0"), num("-1"), num("-0"), num("99999999999999999999")}, "1\"a\"b": {num("1"), str("a"), name("b")},
		"\"\" \"\"": {str(""), str("")}, "\"a\tb\"\"c\"": {str("a\tb"), str("c")}, `"\"\\\/\b\f\n\r\t\u00E9\ud83d\ude00"`: {str("\"\\/\b\f\n\r\t\u00e9\U0001f600")}, "\"\x7f\u20ac#,\"": {str("\x7f\u20ac#,")},
	} {
		l, at, e := Lex(s)
		if s == "...a....b" {
			if l != nil || at != 7 || e != api.ErrToken {
				t.Error(l, at, e)
			}
			continue
		}
		end := tok(api.TokEnd, "")
		if e != api.OK || at != 0 || !slices.Equal(bare(l), append(slices.Clone(want), end)) || l[len(l)-1].At != len(s) {
			t.Errorf("%q %v %v %v", s, l, at, e)
			continue
		}
		for _, x := range l {
			if Check(x) != api.OK || !strings.HasPrefix(s[x.At:], x.Text) && x.Kind != api.TokText || x.Kind == api.TokText && s[x.At] != '"' {
				t.Errorf("%q %v", s, x)
			}
		}
		joined, e := Join(l)
		if e != api.OK {
			t.Errorf("%q %v", s, e)
		}
		again, _, e := Lex(joined)
		if e != api.OK || !slices.Equal(bare(again), bare(l)) {
			t.Errorf("%q %q %v", s, joined, e)
		}
	}
}

func TestNoTokens(t *testing.T) {
	for s, at := range map[string]int{"01": 0, "1.5": 0, "1a": 0, "..": 0, "\"a": 0, "\"\"\"\"": 0, "a ?": 2, "-": 0, "-a": 0, "a -01": 2, "1_": 0, "1.": 0, "-0x": 0, "00": 0, "a\n\"b\nc\"": 2, "\"\x01\"": 0, "\"\\x\"": 0, "\"\\u12g4\"": 0, "\"\\ud800\"": 0, "\"\\\"": 0, "\"\\\t\"": 0, "\"\\": 0, "\"": 0, "\"\"\"": 0, "a \x00": 2, "a #\x0b": 3, "#\t\x1f": 2, "\u00e9": 0, "a\u00a0": 1, "a%": 1, "a;": 1, "'a'": 0, "a.b": 1, "\f": 0, "a\x7f": 1, "a-b": 1, "a +1": 2, "\u2028": 0} {
		if l, n, e := Lex(s); l != nil || n != at || e != api.ErrToken {
			t.Errorf("%q %v %v %v", s, l, n, int(e))
		}
	}
	if l, at, e := Lex("a\xff"); l != nil || at != 0 || e != api.ErrUtf {
		t.Error(l, at, e)
	}
	if l, at, e := Lex(strings.Repeat(" ", api.MaxBytes+1)); l != nil || at != 0 || e != api.ErrMany {
		t.Error(l, at, e)
	}
	// With \t for each tab a text must not be too long.
	for n, want := range map[int]api.Errno{8191: api.OK, 8192: api.ErrToken} {
		if _, _, e := Lex("\"" + strings.Repeat("\t", n) + "\""); e != want {
			t.Error(n, e)
		}
	}
}

// P17.1: fuel, and what goes ahead of it.
func TestFuel(t *testing.T) {
	full := strings.Repeat("a ", api.MaxFuel)
	if l, at, e := Lex(full + "#x\n,"); len(l) != api.MaxFuel+1 || at != 0 || e != api.OK {
		t.Error(len(l), at, e)
	}
	for s, want := range map[string]api.Errno{"a": api.ErrFuel, "?": api.ErrFuel, "\x01": api.ErrFuel, "\"": api.ErrFuel, "#\x01": api.ErrToken} {
		l, at, e := Lex(full + s)
		place := len(full)
		if want == api.ErrToken {
			place++
		}
		if l != nil || at != place || e != want {
			t.Error(s, at, e)
		}
	}
	if _, at, e := Lex(full[2:] + "?"); at != len(full)-2 || e != api.ErrToken {
		t.Error(at, e)
	}
}

// P17.2
func TestCheckAndJoin(t *testing.T) {
	good := []api.Token{tok(api.TokEnd, ""), name("on"), num("-0"), num(strings.Repeat("9", 50)), str(""), str("\x00\""), mark("..."), mark("|"), {Kind: api.TokName, Text: "a", At: -7}}
	for _, x := range good {
		if Check(x) != api.OK {
			t.Error(x)
		}
	}
	for _, x := range []api.Token{tok(api.TokEnd, "a"), name(""), name("9a"), name("a-"), num(""), num("01"), num("-"), num("1.5"), str("\xff"), str(strings.Repeat("a", api.MaxBytes+1)), mark(""), mark(".."), mark("()"), mark("?"), mark("\xff"), {Kind: 5}, {Kind: 255, Text: "a"}} {
		if Check(x) != api.ErrBad {
			t.Error(x)
		}
		if s, e := Join([]api.Token{name("a"), x}); s != "" || e != api.ErrBad {
			t.Error(x, s, e)
		}
	}
	if s, e := Join([]api.Token{name("a"), str("\t\""), num("1"), mark("...")}); s != `a "\t\"" 1 ...` || e != api.OK {
		t.Error(s, e)
	}
	if s, e := Join([]api.Token{tok(api.TokEnd, ""), name("a")}); s != "" || e != api.ErrBad {
		t.Error(s, e)
	}
	if s, e := Join([]api.Token{name("a"), tok(api.TokEnd, "")}); s != "a" || e != api.OK {
		t.Error(s, e)
	}
	if s, e := Join([]api.Token{tok(api.TokEnd, "")}); s != "" || e != api.OK {
		t.Error(s, e)
	}
	if s, e := Join(nil); s != "" || e != api.OK {
		t.Error(s, e)
	}
	for s, want := range map[string]bool{"a": true, "_": true, "a9_Z": true, "": false, "9": false, "a b": false, "\u00e9": false, "true": true} {
		if Name(s) != want {
			t.Error(s)
		}
	}
}
