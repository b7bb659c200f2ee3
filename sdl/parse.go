package sdl

import (
	"errors"

	"provost/api"
	"provost/lex"
	"provost/lit"
	"provost/text"
)

// fault is how a reader gives up: an error, at a token.
type fault struct {
	errno api.Errno
	at    int
}

// Error is that of the number.
func (f fault) Error() string {
	return f.errno.Error()
}

// Parse are the definitions that a text tells.
func Parse(s string) (l []api.Def, line, column int, e api.Errno) {
	if e := text.Check(s); e != api.OK {
		return nil, 0, 0, e
	}
	tokens, at, e := lex.Lex(s)
	if e == api.OK {
		var broken fault
		defs, err := definitions(tokens)
		if err == nil {
			return defs, 0, 0, api.OK
		}
		if !errors.As(err, &broken) {
			panic(err)
		}
		at, e = tokens[broken.at].At, broken.errno
	}
	line, column, _ = text.Where(s, at)
	return nil, line, column, e
}

// definitions are what tokens tell, or the fault by which they don't.
func definitions(l []api.Token) (defs []api.Def, err error) {
	defer func() {
		switch x := recover().(type) {
		case nil:
		case error:
			defs, err = nil, x
		default:
			panic(x)
		}
	}()
	r := &reader{l: l}
	for len(defs) == 0 || r.peek().Kind != api.TokEnd {
		defs = append(defs, r.definition())
	}
	return defs, nil
}

// reader reads tokens on from a place; the last one is an end, which is never passed over.
type reader struct {
	l  []api.Token
	at int
}

// peek is the token that stands next.
func (r *reader) peek() api.Token {
	return r.l[r.at]
}

// fail gives up at the token that stands next.
func (r *reader) fail(e api.Errno) {
	panic(fault{e, r.at})
}

// skip passes over a mark, if it stands next.
func (r *reader) skip(mark string) bool {
	if t := r.peek(); t.Kind != api.TokPunct || t.Text != mark {
		return false
	}
	r.at++
	return true
}

// take passes over a mark that has to stand next.
func (r *reader) take(mark string) {
	if !r.skip(mark) {
		r.fail(api.ErrSyntax)
	}
}

// name takes a name that has to stand next.
func (r *reader) name() string {
	t := r.peek()
	if t.Kind != api.TokName {
		r.fail(api.ErrSyntax)
	}
	r.at++
	return t.Text
}

// goOn goes on behind what lit has read, or gives up where it did.
func (r *reader) goOn(next int, e api.Errno) {
	r.at = next
	if e != api.OK {
		r.fail(e)
	}
}

// directives takes directives, if there are some.
func (r *reader) directives() []api.Dir {
	d, next, e := lit.Directives(r.l, r.at, true)
	r.goOn(next, e)
	return d
}

// ref takes the mark : and a type.
func (r *reader) ref() api.Ref {
	r.take(":")
	t, next, e := lit.Type(r.l, r.at)
	r.goOn(next, e)
	return t
}

// some takes parts, one at least, up to a mark.
func some[T any](r *reader, shut string, one func(*reader) T) []T {
	var out []T
	for len(out) == 0 || !r.skip(shut) {
		out = append(out, one(r))
	}
	return out
}

// definition reads a definition, by the name that begins it.
func (r *reader) definition() api.Def {
	var d api.Def
	switch t := r.peek(); {
	case t.Kind != api.TokName:
	case t.Text == "enum":
		d.Kind = api.DefEnum
	case t.Text == "input":
		d.Kind = api.DefInput
	case t.Text == "type":
		d.Kind = api.DefType
	}
	if d.Kind == 0 {
		r.fail(api.ErrSyntax)
	}
	r.at++
	d.Name = r.name()
	d.Dirs = r.directives()
	r.take("{")
	switch d.Kind {
	case api.DefEnum:
		d.Names = some(r, "}", (*reader).enumName)
	case api.DefInput:
		d.Inputs = some(r, "}", (*reader).input)
	case api.DefType:
		d.Fields = some(r, "}", (*reader).field)
	}
	return d
}

// isValueName tells whether a name stands for a value that is no enum's.
func isValueName(s string) bool {
	return s == "true" || s == "false" || s == "null"
}

// enumName reads an enum's value.
func (r *reader) enumName() string {
	if t := r.peek(); t.Kind == api.TokName && isValueName(t.Text) {
		r.fail(api.ErrSyntax)
	}
	return r.name()
}

// input reads what comes in.
func (r *reader) input() api.Input {
	in := api.Input{Name: r.name(), Type: r.ref()}
	if r.skip("=") {
		v, next, e := lit.Value(r.l, r.at, true)
		r.goOn(next, e)
		in.Has, in.Default = true, v
	}
	in.Dirs = r.directives()
	return in
}

// field reads a type's field.
func (r *reader) field() api.Field {
	f := api.Field{Name: r.name()}
	if r.skip("(") {
		f.Args = some(r, ")", (*reader).input)
	}
	f.Type = r.ref()
	f.Dirs = r.directives()
	return f
}
