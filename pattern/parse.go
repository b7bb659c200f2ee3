package pattern

import (
	"cmp"
	"slices"
	"strings"

	"provost/api"
	"provost/text"
)

// thrown is how a reader gives up.
type thrown api.Errno

// tree is a node that is read, with those within.
type tree struct {
	node api.Rx
	kids []tree
}

// reader reads a text's code points on from a place.
type reader struct {
	s    []rune
	at   int
	wide bool // a class would be too many ranges
}

// end is told where no code point stands any more.
const end rune = -1

// Parse is the pattern that a text tells.
func Parse(s string) ([]api.Rx, api.Errno) {
	if e := text.Check(s); e != api.OK {
		return nil, e
	}
	return parse(s)
}

// parse is Parse of a text that is not too long.
func parse(s string) (t []api.Rx, e api.Errno) {
	defer func() {
		switch x := recover().(type) {
		case nil:
		case thrown:
			t, e = nil, api.Errno(x)
		default:
			panic(x)
		}
	}()
	r := &reader{s: []rune(s)}
	root := r.rows()
	if r.at < len(r.s) {
		panic(thrown(api.ErrRegex))
	}
	return r.flat(root), api.OK
}

// flat are the nodes of a tree in preorder, if they are few and flat enough.
func (r *reader) flat(root tree) []api.Rx {
	var out []api.Rx
	deepest := 0
	var put func(x tree, deep int)
	put = func(x tree, deep int) {
		if len(out) == api.MaxRegex {
			panic(thrown(api.ErrMany))
		}
		if holds(x.node.Kind) {
			deep++
			deepest = max(deepest, deep)
		}
		out = append(out, x.node)
		for _, kid := range x.kids {
			put(kid, deep)
		}
	}
	put(root, 0)
	if deepest > api.MaxNest {
		panic(thrown(api.ErrNest))
	}
	if r.wide {
		panic(thrown(api.ErrMany))
	}
	return out
}

// peek is the code point that stands next.
func (r *reader) peek() rune {
	if r.at < len(r.s) {
		return r.s[r.at]
	}
	return end
}

// next takes the code point that stands next.
func (r *reader) next() rune {
	c := r.peek()
	if c == end {
		panic(thrown(api.ErrRegex))
	}
	r.at++
	return c
}

// skip passes over a code point, if it stands next.
func (r *reader) skip(c rune) bool {
	if r.peek() != c {
		return false
	}
	r.at++
	return true
}

// take passes over a code point that has to stand next.
func (r *reader) take(c rune) {
	if !r.skip(c) {
		panic(thrown(api.ErrRegex))
	}
}

// gather is the one tree, or all under a node of a kind.
func gather(kind uint8, kids []tree) tree {
	if len(kids) == 1 {
		return kids[0]
	}
	return tree{api.Rx{Kind: kind, Many: len(kids)}, kids}
}

// rows reads rows with | between.
func (r *reader) rows() tree {
	kids := []tree{r.row()}
	for r.skip('|') {
		kids = append(kids, r.row())
	}
	return gather(api.RxAlt, kids)
}

// row reads pieces up to where none may begin.
func (r *reader) row() tree {
	var kids []tree
	for c := r.peek(); c != end && c != '|' && c != ')'; c = r.peek() {
		kids = append(kids, r.piece())
	}
	if len(kids) == 0 {
		return tree{}
	}
	return gather(api.RxCat, kids)
}

// The kinds of atoms, by what stands first.
const (
	atPoint = iota
	atRound
	atClass
	atEscape
	atPlain
	atoms
)

// atom tells of which kind the atom that stands next is.
func (r *reader) atom() int {
	switch c := r.peek(); {
	case c == '.':
		return atPoint
	case c == '(':
		return atRound
	case c == '[':
		return atClass
	case c == '\\':
		return atEscape
	case c == '-' || c == '^' || !strings.ContainsRune(marks, c):
		return atPlain
	}
	panic(thrown(api.ErrRegex))
}

// piece reads an atom, and how often it is repeated.
func (r *reader) piece() tree {
	readers := [atoms]func() tree{atPoint: r.point, atRound: r.round, atClass: r.class, atEscape: r.escaped, atPlain: r.plain}
	x := readers[r.atom()]()
	least, most, is := r.times()
	if !is {
		return x
	}
	return tree{api.Rx{Kind: api.RxRepeat, Many: 1, Least: least, Most: most}, []tree{x}}
}

// set is a node of a set.
func set(l []api.Range) tree {
	return tree{node: api.Rx{Kind: api.RxSet, Set: l}}
}

// one is the range of one number.
func one(n int) []api.Range {
	return []api.Range{{From: n, To: n}}
}

func (r *reader) point() tree {
	r.next()
	return set([]api.Range{{From: 0, To: api.MaxPoint}})
}

func (r *reader) round() tree {
	r.next()
	x := r.rows()
	r.take(')')
	return x
}

func (r *reader) escaped() tree {
	l, _ := r.escape()
	return set(l)
}

func (r *reader) plain() tree {
	return set(one(int(r.next())))
}

// class reads a class: an end, or a code point that may not be there, is met as an item.
func (r *reader) class() tree {
	r.take('[')
	turned := r.skip('^')
	var items []api.Range
	for !r.skip(']') {
		items = append(items, r.item()...)
	}
	l := together(items)
	if turned {
		l = others(l)
	}
	// The text is read on: what is no pattern goes ahead of what is too much.
	if len(l) > api.MaxRanges {
		r.wide = true
		return set(nil)
	}
	return set(l)
}

// item reads an item of a class.
func (r *reader) item() []api.Range {
	l, single := r.member()
	if !single || !r.skip('-') {
		return l
	}
	to, single := r.member()
	if !single || to[0].From < l[0].From {
		panic(thrown(api.ErrRegex))
	}
	return []api.Range{{From: l[0].From, To: to[0].From}}
}

// member reads a number of a class, or an escape, and tells whether it is a number.
func (r *reader) member() ([]api.Range, bool) {
	switch c := r.peek(); c {
	case '\\':
		return r.escape()
	case ']', '-', '^', '[':
		panic(thrown(api.ErrRegex))
	}
	return one(int(r.next())), true
}

// escape reads an escape, and tells whether it is a number.
func (r *reader) escape() ([]api.Range, bool) {
	r.take('\\')
	c := r.next()
	switch c {
	case 'n':
		return one('\n'), true
	case 'r':
		return one('\r'), true
	case 't':
		return one('\t'), true
	case 'u':
		return one(r.six()), true
	case 'd':
		return []api.Range{{From: '0', To: '9'}}, false
	case 'w':
		return []api.Range{{From: '0', To: '9'}, {From: 'A', To: 'Z'}, {From: '_', To: '_'}, {From: 'a', To: 'z'}}, false
	case 's':
		return []api.Range{{From: 9, To: 10}, {From: 13, To: 13}, {From: 32, To: 32}}, false
	}
	if !strings.ContainsRune(marks, c) {
		panic(thrown(api.ErrRegex))
	}
	return one(int(c)), true
}

// six reads six digits to the base of 16.
func (r *reader) six() int {
	n := 0
	for range 6 {
		n = n<<4 | hex(r.next())
	}
	if n > api.MaxPoint {
		panic(thrown(api.ErrRegex))
	}
	return n
}

// hex is what a digit to the base of 16 tells.
func hex(c rune) int {
	switch {
	case c >= '0' && c <= '9':
		return int(c - '0')
	case c >= 'a' && c <= 'f':
		return int(c-'a') + 10
	case c >= 'A' && c <= 'F':
		return int(c-'A') + 10
	}
	panic(thrown(api.ErrRegex))
}

// times reads how often an atom is repeated, if that is told.
func (r *reader) times() (least, most int, is bool) {
	switch {
	case r.skip('*'):
		return 0, -1, true
	case r.skip('+'):
		return 1, -1, true
	case r.skip('?'):
		return 0, 1, true
	case !r.skip('{'):
		return 0, 0, false
	}
	least = r.count()
	most = least
	if r.skip(',') {
		most = -1
		if r.peek() != '}' {
			most = r.count()
		}
	}
	r.take('}')
	if !timesFit(least, most) {
		panic(thrown(api.ErrRegex))
	}
	return least, most, true
}

// count reads a number of one or two digits.
func (r *reader) count() int {
	n, digits := 0, 0
	for c := r.peek(); digits < 2 && c >= '0' && c <= '9'; c = r.peek() {
		n = 10*n + int(c-'0')
		r.at++
		digits++
	}
	if digits == 0 {
		panic(thrown(api.ErrRegex))
	}
	return n
}

// together is the set of the numbers of ranges, however many these are.
func together(l []api.Range) []api.Range {
	slices.SortFunc(l, func(a, b api.Range) int { return cmp.Compare(a.From, b.From) })
	var out []api.Range
	for _, x := range l {
		last := len(out) - 1
		if last >= 0 && x.From <= out[last].To+1 {
			out[last].To = max(out[last].To, x.To)
			continue
		}
		out = append(out, x)
	}
	return out
}

// others is the set of all other numbers, however many ranges these are.
func others(l []api.Range) []api.Range {
	var out []api.Range
	from := 0
	for _, x := range l {
		if x.From > from {
			out = append(out, api.Range{From: from, To: x.From - 1})
		}
		from = x.To + 1
	}
	if from <= api.MaxPoint {
		out = append(out, api.Range{From: from, To: api.MaxPoint})
	}
	return out
}
