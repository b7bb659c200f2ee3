package json

import (
	"provost/api"
	"provost/text"
	"provost/whole"
)

// thrown is how a reader gives up.
type thrown api.Errno

// reader reads JSON on from a place.
type reader struct {
	s    string
	at   int
	open int
	out  []api.Cell
}

// Read is the value that JSON tells.
func Read(s string) ([]api.Cell, api.Errno) {
	if e := text.Check(s); e != api.OK {
		return nil, e
	}
	return read(s)
}

// read is Read of a text that is not too long.
func read(s string) (v []api.Cell, e api.Errno) {
	defer func() {
		switch x := recover().(type) {
		case nil:
		case thrown:
			v, e = nil, api.Errno(x)
		default:
			panic(x)
		}
	}()
	r := &reader{s: s}
	r.blanks()
	r.value("")
	r.blanks()
	if r.at < len(s) {
		panic(thrown(api.ErrJson))
	}
	return r.out, api.OK
}

// peek is the byte that stands next; 0 at the end (a 0 may stand nowhere).
func (r *reader) peek() byte {
	if r.at < len(r.s) {
		return r.s[r.at]
	}
	return 0
}

// blanks passes over blanks.
func (r *reader) blanks() {
	for {
		switch r.peek() {
		case ' ', '\t', '\n', '\r':
			r.at++
		default:
			return
		}
	}
}

// take passes over a byte that has to stand next.
func (r *reader) take(b byte) {
	if r.peek() != b {
		panic(thrown(api.ErrJson))
	}
	r.at++
}

// word passes over bytes that have to stand next.
func (r *reader) word(w string) {
	for i := 0; i < len(w); i++ {
		r.take(w[i])
	}
}

// value reads the value that stands next, under a name.
func (r *reader) value(name string) {
	var read func(head int)
	switch r.peek() {
	case '{':
		read = r.object
	case '[':
		read = r.list
	case '"':
		read = r.textValue
	case 't', 'f', 'n':
		read = r.named
	case '-':
		fallthrough
	case '0', '1', '2', '3', '4', '5', '6', '7', '8', '9':
		read = r.number
	default:
		panic(thrown(api.ErrJson))
	}
	r.begin(name)
	read(len(r.out) - 1)
}

// begin adds the cell of the value that stands next. Too deep a bracket goes ahead of too many cells.
func (r *reader) begin(name string) {
	if b := r.peek(); (b == '{' || b == '[') && r.open == api.MaxNest {
		panic(thrown(api.ErrNest))
	}
	if len(r.out) == api.MaxCells {
		panic(thrown(api.ErrMany))
	}
	r.out = append(r.out, api.Cell{Name: name})
}

// named reads true, false or null.
func (r *reader) named(head int) {
	c := &r.out[head]
	switch r.peek() {
	case 't':
		c.Int = 1
		r.word("true")
		c.Kind = api.Bool
	case 'f':
		r.word("false")
		c.Kind = api.Bool
	default:
		r.word("null")
	}
}

// textValue reads a string.
func (r *reader) textValue(head int) {
	s := r.str()
	r.out[head].Kind, r.out[head].Text = api.Text, s
}

// digits passes over digits, and tells how many there are.
func (r *reader) digits() int {
	n := 0
	for r.peek() >= '0' && r.peek() <= '9' {
		r.at++
		n++
	}
	return n
}

// number reads the longest number that begins here.
func (r *reader) number(head int) {
	from := r.at
	if r.peek() == '-' {
		r.at++
	}
	if r.peek() == '0' {
		r.at++
	} else if r.digits() == 0 {
		panic(thrown(api.ErrJson))
	}
	r.fraction()
	r.exponent()
	// With a fraction, or an exponent, there are no digits of a number.
	n, e := whole.Read(r.s[from:r.at])
	if e != api.OK {
		panic(thrown(api.ErrNumber))
	}
	r.out[head].Kind, r.out[head].Int = api.Int, n
}

// fraction passes over a fraction, if one stands next.
func (r *reader) fraction() {
	from := r.at
	if r.peek() != '.' {
		return
	}
	r.at++
	if r.digits() == 0 {
		r.at = from
	}
}

// exponent passes over an exponent, if one stands next.
func (r *reader) exponent() {
	from := r.at
	if r.peek() != 'e' && r.peek() != 'E' {
		return
	}
	r.at++
	if r.peek() == '+' || r.peek() == '-' {
		r.at++
	}
	if r.digits() == 0 {
		r.at = from
	}
}

// list reads a list's items.
func (r *reader) list(head int) {
	r.out[head].Kind = api.List
	r.all('[', ']', func() {
		r.value("")
		r.out[head].Many++
	})
}

// object reads an object's members.
func (r *reader) object(head int) {
	r.out[head].Kind = api.Object
	names := map[string]struct{}{}
	r.all('{', '}', func() {
		name := r.str()
		if name == "" {
			panic(thrown(api.ErrBad))
		}
		if _, twice := names[name]; twice {
			panic(thrown(api.ErrTwice))
		}
		names[name] = struct{}{}
		r.blanks()
		r.take(':')
		r.blanks()
		r.value(name)
		r.out[head].Many++
	})
}

// all reads, between brackets, none or some with commas between.
func (r *reader) all(open, shut byte, one func()) {
	r.take(open)
	r.open++
	r.blanks()
	if r.peek() != shut {
		one()
		r.blanks()
		for r.peek() == ',' {
			r.at++
			r.blanks()
			one()
			r.blanks()
		}
	}
	r.take(shut)
	r.open--
}

// str reads a string, and tells the text.
func (r *reader) str() string {
	r.take('"')
	var out []byte
	for r.peek() != '"' {
		switch b := r.peek(); {
		case b == '\\':
			r.at++
			out = r.escape(out)
		case b < 32:
			panic(thrown(api.ErrJson))
		default:
			out = append(out, b)
			r.at++
		}
	}
	r.at++
	return string(out)
}

// escape reads what stands behind a \ , and puts it behind out.
func (r *reader) escape(out []byte) []byte {
	b := r.peek()
	r.at++
	switch b {
	case '"', '\\', '/':
		return append(out, b)
	case 'b':
		return append(out, 8)
	case 'f':
		return append(out, 12)
	case 'n':
		return append(out, 10)
	case 'r':
		return append(out, 13)
	case 't':
		return append(out, 9)
	case 'u':
		return append(out, r.point()...)
	}
	panic(thrown(api.ErrJson))
}

// point reads the digits of a code point, of two surrogates, too.
func (r *reader) point() string {
	p := r.four()
	if p >= 0xd800 && p <= 0xdbff {
		r.take('\\')
		r.take('u')
		low := r.four()
		if low < 0xdc00 || low > 0xdfff {
			panic(thrown(api.ErrJson))
		}
		p = 0x10000 + ((p&0x3ff)<<10 | low&0x3ff)
	}
	s, e := text.Put([]int{p})
	if e != api.OK {
		panic(thrown(api.ErrJson))
	}
	return s
}

// four reads four digits to the base of 16.
func (r *reader) four() int {
	n := 0
	for range 4 {
		d := hex(r.peek())
		if d < 0 {
			panic(thrown(api.ErrJson))
		}
		n = n<<4 | d
		r.at++
	}
	return n
}

// hex is what a digit to the base of 16 tells, or -1.
func hex(b byte) int {
	switch {
	case b >= '0' && b <= '9':
		return int(b - '0')
	case b >= 'a' && b <= 'f':
		return int(b-'a') + 10
	case b >= 'A' && b <= 'F':
		return int(b-'A') + 10
	}
	return -1
}
