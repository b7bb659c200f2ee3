// Package text is layer 1: code points of bytes, forth and back.
package text

import "provost/api"

// Surrogates are numbers that are no code points.
const (
	firstSurrogate = 0xd800
	lastSurrogate  = 0xdfff
)

// Next tells the code point whose bytes begin at a place of s, and how many bytes it has.
func Next(s string, at int) (point, size int, e api.Errno) {
	if at < 0 || at >= len(s) {
		return 0, 0, api.ErrArg
	}
	point, size = decode(s, at)
	if size == 0 {
		return 0, 0, api.ErrUtf
	}
	return point, size, api.OK
}

// Back tells the code point whose bytes end just ahead of a place of s, and how many bytes it has.
func Back(s string, at int) (point, size int, e api.Errno) {
	if at < 1 || at > len(s) {
		return 0, 0, api.ErrArg
	}
	for back := 1; back <= 4 && back <= at; back++ {
		point, size = decode(s[:at], at-back)
		if size == back {
			return point, size, api.OK
		}
	}
	return 0, 0, api.ErrUtf
}

// Check tells whether s is a text that is not too long.
func Check(s string) api.Errno {
	if len(s) > api.MaxBytes {
		return api.ErrMany
	}
	for at := 0; at < len(s); {
		_, size := decode(s, at)
		if size == 0 {
			return api.ErrUtf
		}
		at += size
	}
	return api.OK
}

// Count tells how many code points s has.
func Count(s string) (int, api.Errno) {
	if e := Check(s); e != api.OK {
		return 0, e
	}
	n := 0
	for range s {
		n++
	}
	return n, api.OK
}

// Put is the text of code points.
func Put(points []int) (string, api.Errno) {
	if len(points) > api.MaxBytes {
		return "", api.ErrMany
	}
	var out []byte
	for _, p := range points {
		if !isPoint(p) {
			return "", api.ErrUtf
		}
		out = encode(out, p)
	}
	return string(out), api.OK
}

// Where tells the line and the column of a place of s.
func Where(s string, at int) (line, column int, e api.Errno) {
	if e := Check(s); e != api.OK {
		return 0, 0, e
	}
	line, column = 1, 1
	for i, r := range s {
		if i >= at {
			return told(line, column, i == at)
		}
		column++
		if endsLine(s, i, r) {
			line, column = line+1, 1
		}
	}
	return told(line, column, at == len(s))
}

// told keeps back the line and the column of what is no place.
func told(line, column int, is bool) (int, int, api.Errno) {
	if !is {
		return 0, 0, api.ErrArg
	}
	return line, column, api.OK
}

// endsLine tells whether r, at i of s, is the last code point of a line's end: of 13 10 only the 10 is.
func endsLine(s string, i int, r rune) bool {
	if r == '\r' {
		return i+1 == len(s) || s[i+1] != '\n'
	}
	return r == '\n'
}

// isPoint tells whether a number is a code point.
func isPoint(p int) bool {
	return p >= 0 && p <= api.MaxPoint && (p < firstSurrogate || p > lastSurrogate)
}

// sizeOf tells how many bytes a code point has.
func sizeOf(p int) int {
	switch {
	case p < 0x80:
		return 1
	case p < 0x800:
		return 2
	case p < 0x10000:
		return 3
	}
	return 4
}

// walk gives the bytes of s from a place on, one a call; behind the last one it tells false.
func walk(s string, at int) func() (int, bool) {
	return func() (int, bool) {
		if at >= len(s) {
			return 0, false
		}
		b := int(s[at])
		at++
		return b, true
	}
}

// lead tells how many bytes a first byte asks for (0: none begins by it), and the bits that it has of the number.
func lead(b int) (size, bits int) {
	switch {
	case b < 0x80:
		return 1, b
	case b >= 0xc0 && b < 0xe0:
		return 2, b & 0x1f
	case b >= 0xe0 && b < 0xf0:
		return 3, b & 0x0f
	case b >= 0xf0 && b < 0xf8:
		return 4, b & 0x07
	}
	return 0, 0
}

// decode tells the code point whose bytes begin at a place of s; its size is 0, if none do.
func decode(s string, at int) (point, size int) {
	next := walk(s, at)
	first, _ := next()
	size, point = lead(first)
	for i := 1; i < size; i++ {
		b, ok := next()
		if !ok || b&0xc0 != 0x80 {
			return 0, 0
		}
		point = point<<6 | b&0x3f
	}
	// A longer form than the number needs is no code point's.
	if size == 0 || !isPoint(point) || sizeOf(point) != size {
		return 0, 0
	}
	return point, size
}

// encode puts a code point's bytes behind others.
func encode(out []byte, p int) []byte {
	switch sizeOf(p) {
	case 1:
		return append(out, byte(p))
	case 2:
		return append(out, byte(0xc0|p>>6), byte(0x80|p&0x3f))
	case 3:
		return append(out, byte(0xe0|p>>12), byte(0x80|p>>6&0x3f), byte(0x80|p&0x3f))
	}
	return append(out, byte(0xf0|p>>18), byte(0x80|p>>12&0x3f), byte(0x80|p>>6&0x3f), byte(0x80|p&0x3f))
}
