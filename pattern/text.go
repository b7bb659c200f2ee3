package pattern

import (
	"strconv"
	"strings"

	"provost/api"
)

// marks are the code points that mean something else than themselves.
const marks = ".[]()*+?{}|\\-^"

// Text is a pattern's text.
func Text(t []api.Rx) (string, api.Errno) {
	if e := Check(t); e != api.OK {
		return "", e
	}
	w := &writer{t: t}
	w.node()
	return w.out.String(), api.OK
}

// writer writes a pattern's nodes on from a place.
type writer struct {
	t   []api.Rx
	at  int
	out strings.Builder
}

// node writes the node that stands next.
func (w *writer) node() {
	n := w.t[w.at]
	w.at++
	switch n.Kind {
	case api.RxSet:
		w.set(n.Set)
	case api.RxCat:
		for range n.Many {
			w.within(w.next() != api.RxSet && w.next() != api.RxRepeat)
		}
	case api.RxAlt:
		for i := range n.Many {
			if i > 0 {
				w.out.WriteByte('|')
			}
			w.within(w.next() == api.RxAlt)
		}
	case api.RxRepeat:
		w.within(w.next() != api.RxSet)
		w.times(n.Least, n.Most)
	}
}

// next is the kind of the node that stands next.
func (w *writer) next() uint8 {
	return w.t[w.at].Kind
}

// within writes the node that stands next, in round brackets or not.
func (w *writer) within(round bool) {
	if !round {
		w.node()
		return
	}
	w.out.WriteByte('(')
	w.node()
	w.out.WriteByte(')')
}

// set writes a set.
func (w *writer) set(l []api.Range) {
	if len(l) == 1 && l[0] == (api.Range{From: 0, To: api.MaxPoint}) {
		w.out.WriteByte('.')
		return
	}
	if len(l) == 1 && l[0].From == l[0].To {
		w.number(l[0].From)
		return
	}
	w.out.WriteByte('[')
	for _, r := range l {
		w.number(r.From)
		if r.To != r.From {
			w.out.WriteByte('-')
			w.number(r.To)
		}
	}
	w.out.WriteByte(']')
}

// number writes a number of a set.
func (w *writer) number(n int) {
	switch {
	case n < 127 && strings.ContainsRune(marks, rune(n)):
		w.out.WriteByte('\\')
		w.out.WriteByte(byte(n))
	case n < 32 || n == 127 || n >= 0xd800 && n <= 0xdfff:
		digits := strconv.FormatInt(int64(n), 16)
		w.out.WriteString("\\u" + strings.Repeat("0", 6-len(digits)) + digits)
	default:
		w.out.WriteRune(rune(n))
	}
}

// times writes how often something is repeated.
func (w *writer) times(least, most int) {
	n := strconv.Itoa(least)
	switch {
	case least == 0 && most == -1:
		w.out.WriteByte('*')
	case least == 1 && most == -1:
		w.out.WriteByte('+')
	case least == 0 && most == 1:
		w.out.WriteByte('?')
	case most == least:
		w.out.WriteString("{" + n + "}")
	case most == -1:
		w.out.WriteString("{" + n + ",}")
	default:
		w.out.WriteString("{" + n + "," + strconv.Itoa(most) + "}")
	}
}
