package doc

import (
	"provost/api"
	"provost/lex"
	"provost/lit"
	"provost/text"
)

// fault is how a reader gives up: an error, at a token.
type fault struct {
	e  api.Errno
	at int
}

// Parse is the document that a text tells.
func Parse(s string) (d api.Doc, line, column int, e api.Errno) {
	if e := text.Check(s); e != api.OK {
		return api.Doc{}, 0, 0, e
	}
	l, at, e := lex.Lex(s)
	if e == api.OK {
		d, at, e = read(l)
	}
	if e != api.OK {
		line, column, _ = text.Where(s, at)
		return api.Doc{}, line, column, e
	}
	return d, 0, 0, api.OK
}

// read is the document that tokens tell, or the byte at which they don't.
func read(l []api.Token) (d api.Doc, at int, e api.Errno) {
	defer func() {
		switch x := recover().(type) {
		case nil:
		case fault:
			d, at, e = api.Doc{}, l[x.at].At, x.e
		default:
			panic(x)
		}
	}()
	r := &reader{tokens: tokens{l: l}}
	for r.peek().Kind != api.TokEnd || r.at == 0 {
		r.definition()
	}
	return r.doc, 0, api.OK
}

// tokens are read on from a place; the last one is an end, which is never passed over.
type tokens struct {
	l  []api.Token
	at int
}

// peek is the token that stands next.
func (r *tokens) peek() api.Token {
	return r.l[r.at]
}

// fail gives up at the token that stands next.
func (r *tokens) fail(e api.Errno) {
	panic(fault{e, r.at})
}

// is tells whether a name, a mark stands next.
func (r *tokens) is(kind uint8, text string) bool {
	t := r.peek()
	return t.Kind == kind && t.Text == text
}

// skip passes over a mark, if it stands next.
func (r *tokens) skip(mark string) bool {
	if !r.is(api.TokPunct, mark) {
		return false
	}
	r.at++
	return true
}

// take passes over a mark that has to stand next.
func (r *tokens) take(mark string) {
	if !r.skip(mark) {
		r.fail(api.ErrSyntax)
	}
}

// name takes a name that has to stand next.
func (r *tokens) name() string {
	t := r.peek()
	if t.Kind != api.TokName {
		r.fail(api.ErrSyntax)
	}
	r.at++
	return t.Text
}

// word takes a certain name that has to stand next.
func (r *tokens) word(name string) {
	if !r.is(api.TokName, name) {
		r.fail(api.ErrSyntax)
	}
	r.at++
}

// fragmentName takes a name other than on.
func (r *tokens) fragmentName() string {
	if r.is(api.TokName, "on") {
		r.fail(api.ErrSyntax)
	}
	return r.name()
}

// goOn goes on behind what lit has read, or gives up where it did.
func (r *tokens) goOn(next int, e api.Errno) {
	r.at = next
	if e != api.OK {
		r.fail(e)
	}
}

// arguments takes arguments, if there are some.
func (r *tokens) arguments() []api.Arg {
	a, next, e := lit.Arguments(r.l, r.at, false)
	r.goOn(next, e)
	return a
}

// directives takes directives, if there are some.
func (r *tokens) directives() []api.Dir {
	d, next, e := lit.Directives(r.l, r.at, false)
	r.goOn(next, e)
	return d
}

// reader reads a document.
type reader struct {
	tokens
	doc  api.Doc
	open int
	sels []api.Sel
}

// definition reads a definition, by the name, or the brace, that begins it.
func (r *reader) definition() {
	kinds := map[string]func(){
		"query":    func() { r.operation(api.OpQuery) },
		"mutation": func() { r.operation(api.OpMutation) },
		"fragment": r.fragment,
	}
	if r.is(api.TokPunct, "{") {
		many, sels := r.top()
		r.doc.Ops = append(r.doc.Ops, api.Op{Kind: api.OpQuery, Many: many, Sels: sels})
		return
	}
	one, is := kinds[r.peek().Text]
	if !is || r.peek().Kind != api.TokName {
		r.fail(api.ErrSyntax)
	}
	r.at++
	one()
}

// operation reads what stands behind an operation's word.
func (r *reader) operation(kind uint8) {
	op := api.Op{Kind: kind}
	if r.peek().Kind == api.TokName {
		op.Name = r.name()
	}
	if r.skip("(") {
		for len(op.Vars) == 0 || !r.skip(")") {
			op.Vars = append(op.Vars, r.variable())
		}
	}
	op.Many, op.Sels = r.top()
	r.doc.Ops = append(r.doc.Ops, op)
}

// variable reads a variable.
func (r *reader) variable() api.Input {
	var v api.Input
	r.take("$")
	v.Name = r.name()
	r.take(":")
	t, next, e := lit.Type(r.l, r.at)
	r.goOn(next, e)
	v.Type = t
	if r.skip("=") {
		v.Has = true
		value, next, e := lit.Value(r.l, r.at, true)
		r.goOn(next, e)
		v.Default = value
	}
	return v
}

// fragment reads what stands behind a fragment's word.
func (r *reader) fragment() {
	f := api.Frag{Name: r.fragmentName()}
	r.word("on")
	f.On = r.name()
	f.Many, f.Sels = r.top()
	r.doc.Frags = append(r.doc.Frags, f)
}

// top reads the selections of a definition.
func (r *reader) top() (int, []api.Sel) {
	r.sels = nil
	return r.selections(), r.sels
}

// selections reads selections in braces, and tells how many they are.
func (r *reader) selections() int {
	if r.open == api.MaxNest && r.is(api.TokPunct, "{") {
		r.fail(api.ErrNest)
	}
	r.take("{")
	r.open++
	n := 0
	for n == 0 || !r.skip("}") {
		r.selection()
		n++
	}
	r.open--
	return n
}

// selection reads a selection, and all within.
func (r *reader) selection() {
	at := len(r.sels)
	if r.skip("...") {
		r.sels = append(r.sels, r.spread())
	} else {
		r.sels = append(r.sels, r.field())
	}
	if r.sels[at].Kind == api.SelInline || r.sels[at].Kind == api.SelField && r.is(api.TokPunct, "{") {
		many := r.selections()
		r.sels[at].Many = many
	}
}

// spread reads what stands behind three points, up to selections.
func (r *reader) spread() api.Sel {
	x := api.Sel{Kind: api.SelInline}
	switch {
	case r.is(api.TokName, "on"):
		r.at++
		x.Name = r.name()
	case r.peek().Kind == api.TokName:
		x.Kind, x.Name = api.SelSpread, r.name()
	}
	x.Dirs = r.directives()
	return x
}

// field reads a field, up to its selections.
func (r *reader) field() api.Sel {
	x := api.Sel{Kind: api.SelField, Name: r.name()}
	if r.skip(":") {
		x.Alias, x.Name = x.Name, r.name()
	}
	x.Args = r.arguments()
	x.Dirs = r.directives()
	return x
}
