package lit

import (
	"provost/api"
	"provost/cell"
	"provost/lex"
	"provost/whole"
)

func mark(text string) api.Token {
	return api.Token{Kind: api.TokPunct, Text: text}
}

func name(text string) api.Token {
	return api.Token{Kind: api.TokName, Text: text}
}

// mayBe tells whether cells are a value whose names are names.
func mayBe(v []api.Cell) bool {
	for _, c := range v {
		if c.Name != "" && !lex.Name(c.Name) || c.Kind == api.Enum && named(c.Text).Kind != api.Enum {
			return false
		}
	}
	return cell.Check(v) == api.OK
}

// Tokens are a literal's tokens.
func Tokens(v []api.Cell) ([]api.Token, api.Errno) {
	if !mayBe(v) {
		return nil, api.ErrBad
	}
	out, _ := put(nil, v, 0)
	return out, api.OK
}

// put puts the tokens of the value at at behind others, and tells the place behind it.
func put(out []api.Token, v []api.Cell, at int) ([]api.Token, int) {
	c := v[at]
	next := at + 1
	switch c.Kind {
	case api.Null:
		return append(out, name("null")), next
	case api.Bool:
		if c.Int == 1 {
			return append(out, name("true")), next
		}
		return append(out, name("false")), next
	case api.Int:
		return append(out, api.Token{Kind: api.TokInt, Text: whole.Write(c.Int)}), next
	case api.Text:
		return append(out, api.Token{Kind: api.TokText, Text: c.Text}), next
	case api.Var:
		return append(out, mark("$"), name(c.Text)), next
	case api.List:
		out = append(out, mark("["))
		for range c.Many {
			out, next = put(out, v, next)
		}
		return append(out, mark("]")), next
	case api.Object:
		out = append(out, mark("{"))
		for range c.Many {
			out, next = put(append(out, name(v[next].Name), mark(":")), v, next)
		}
		return append(out, mark("}")), next
	}
	return append(out, name(c.Text)), next
}

// TypeTokens are a type's tokens.
func TypeTokens(t api.Ref) ([]api.Token, api.Errno) {
	if !lex.Name(t.Name) || len(t.Wraps) > api.MaxWraps {
		return nil, api.ErrBad
	}
	var out []api.Token
	for i, w := range t.Wraps {
		if w != api.WrapNon && w != api.WrapList || i > 0 && w == api.WrapNon && t.Wraps[i-1] == api.WrapNon {
			return nil, api.ErrBad
		}
		if w == api.WrapList {
			out = append(out, mark("["))
		}
	}
	out = append(out, name(t.Name))
	for i := len(t.Wraps) - 1; i >= 0; i-- {
		if t.Wraps[i] == api.WrapList {
			out = append(out, mark("]"))
		} else {
			out = append(out, mark("!"))
		}
	}
	return out, api.OK
}

// ArgumentTokens are the tokens of arguments.
func ArgumentTokens(a []api.Arg) ([]api.Token, api.Errno) {
	if len(a) == 0 {
		return nil, api.OK
	}
	names := map[string]struct{}{}
	out := []api.Token{mark("(")}
	for _, x := range a {
		_, twice := names[x.Name]
		if twice || !lex.Name(x.Name) || !mayBe(x.Value) {
			return nil, api.ErrBad
		}
		names[x.Name] = struct{}{}
		out, _ = put(append(out, name(x.Name), mark(":")), x.Value, 0)
	}
	return append(out, mark(")")), api.OK
}

// DirectiveTokens are the tokens of directives.
func DirectiveTokens(d []api.Dir) ([]api.Token, api.Errno) {
	var out []api.Token
	for _, x := range d {
		args, e := ArgumentTokens(x.Args)
		if e != api.OK || !lex.Name(x.Name) {
			return nil, api.ErrBad
		}
		head := [2]api.Token{mark("@"), name(x.Name)}
		out = append(out, append(head[:2:2], args...)...)
	}
	return out, api.OK
}
