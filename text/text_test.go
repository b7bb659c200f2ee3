package text

import (
	"strings"
	"testing"
	"unicode/utf8"

	"provost/api"
)

// P1.1: the examples, and the edges of places.
func TestNextAndBack(t *testing.T) {
	if p, n, e := Next("a€", 1); p != 0x20ac || n != 3 || e != api.OK {
		t.Error(p, n, e)
	}
	if p, n, e := Back("a€", 4); p != 0x20ac || n != 3 || e != api.OK {
		t.Error(p, n, e)
	}
	if p, n, e := Back("a€", 1); p != 97 || n != 1 || e != api.OK {
		t.Error(p, n, e)
	}
	for _, at := range []int{-1, 1, 1 << 40, -1 << 60} {
		if p, n, e := Next("a", at); p != 0 || n != 0 || e != api.ErrArg {
			t.Error(at, p, n, e)
		}
	}
	for _, at := range []int{-1, 0, 2} {
		if _, _, e := Back("a", at); e != api.ErrArg {
			t.Error(at, e)
		}
	}
	if _, _, e := Next("€", 1); e != api.ErrUtf {
		t.Error(e)
	}
	if _, _, e := Back("€", 2); e != api.ErrUtf {
		t.Error(e)
	}
	if _, _, e := Back("é\x80", 3); e != api.ErrUtf {
		t.Error(e)
	}
}

func TestNoCodePoints(t *testing.T) {
	for _, s := range []string{"\xc0\x80", "\xed\xa0\x80", "\xed\xbf\xbf", "\xf4\x90\x80\x80", "\xf0\x8f\xbf\xbf", "\xc1\xbf", "\xe0\x9f\xbf", "\xf8\x80\x80\x80", "\x80", "\xc3", "\xe2\x82", "\xf0\x9f\x98", "\xc3a", "\xff"} {
		if p, n, e := Next(s, 0); p != 0 || n != 0 || e != api.ErrUtf {
			t.Errorf("%q %v %v %v", s, p, n, e)
		}
		if e := Check(s); e != api.ErrUtf {
			t.Errorf("%q %v", s, e)
		}
		if _, _, e := Back(s, len(s)); e != api.ErrUtf && s != "\xc3a" {
			t.Errorf("%q %v", s, e)
		}
	}
}

// P1.4: all code points go there and back.
func TestAllPoints(t *testing.T) {
	for p := 0; p <= api.MaxPoint; p++ {
		s, e := Put([]int{p})
		if p >= 0xd800 && p <= 0xdfff {
			if e != api.ErrUtf || s != "" {
				t.Fatal(p, s, e)
			}
			continue
		}
		if e != api.OK || s != string(rune(p)) {
			t.Fatal(p, s, e)
		}
		if q, n, e := Next(s, 0); q != p || n != len(s) || e != api.OK {
			t.Fatal(p, q, n, e)
		}
		if q, n, e := Back(s, len(s)); q != p || n != len(s) || e != api.OK {
			t.Fatal(p, q, n, e)
		}
	}
	for _, p := range []int{-1, api.MaxPoint + 1, 1 << 40} {
		if _, e := Put([]int{97, p}); e != api.ErrUtf {
			t.Error(p, e)
		}
	}
}

// Next agrees with the library on all rows of three bytes of some few.
func TestAgainstLibrary(t *testing.T) {
	some := []byte{0, 0x61, 0x7f, 0x80, 0x8f, 0x90, 0x9f, 0xa0, 0xbf, 0xc0, 0xc2, 0xdf, 0xe0, 0xed, 0xef, 0xf0, 0xf4, 0xf5, 0xff}
	for _, a := range some {
		for _, b := range some {
			for _, c := range some {
				for _, d := range some {
					s := string([]byte{a, b, c, d})
					r, n := utf8.DecodeRuneInString(s)
					ok := r != utf8.RuneError || n != 1
					p, m, e := Next(s, 0)
					if ok != (e == api.OK) || ok && (p != int(r) || m != n) {
						t.Fatalf("%q %v %v %v", s, p, m, e)
					}
					r, n = utf8.DecodeLastRuneInString(s)
					ok = r != utf8.RuneError || n != 1
					p, m, e = Back(s, 4)
					if ok != (e == api.OK) || ok && (p != int(r) || m != n) {
						t.Fatalf("back %q %v %v %v", s, p, m, e)
					}
				}
			}
		}
	}
}

// P1.2: limits.
func TestLimits(t *testing.T) {
	full := strings.Repeat("a", api.MaxBytes)
	if e := Check(full); e != api.OK {
		t.Error(e)
	}
	if e := Check(full + "\xff"); e != api.ErrMany {
		t.Error(e)
	}
	if n, e := Count(full); n != api.MaxBytes || e != api.OK {
		t.Error(n, e)
	}
	if n, e := Count(full + "a"); n != 0 || e != api.ErrMany {
		t.Error(n, e)
	}
	if n, e := Count("a€\U0001f600"); n != 3 || e != api.OK {
		t.Error(n, e)
	}
	if n, e := Count("a\xe2"); n != 0 || e != api.ErrUtf {
		t.Error(n, e)
	}
	points := make([]int, api.MaxBytes)
	for i := range points {
		points[i] = api.MaxPoint
	}
	if s, e := Put(points); len(s) != 4*api.MaxBytes || e != api.OK {
		t.Error(len(s), e)
	}
	if _, e := Put(append(points, -1)); e != api.ErrMany {
		t.Error(e)
	}
	if s, e := Put(nil); s != "" || e != api.OK {
		t.Error(s, e)
	}
}

// P1.3: lines and columns.
func TestWhere(t *testing.T) {
	if l, c, e := Where("a\r\n€b", 6); l != 2 || c != 2 || e != api.OK {
		t.Error(l, c, e)
	}
	s := "\n\r\r\n€\n"
	want := map[int][2]int{0: {1, 1}, 1: {2, 1}, 2: {3, 1}, 3: {3, 2}, 4: {4, 1}, 7: {4, 2}, 8: {5, 1}}
	for at := -1; at <= len(s)+1; at++ {
		l, c, e := Where(s, at)
		w, ok := want[at]
		if ok && (e != api.OK || l != w[0] || c != w[1]) || !ok && (e != api.ErrArg || l != 0 || c != 0) {
			t.Error(at, l, c, e)
		}
	}
	if l, c, e := Where("", 0); l != 1 || c != 1 || e != api.OK {
		t.Error(l, c, e)
	}
	if _, _, e := Where("\xff", 7); e != api.ErrUtf {
		t.Error(e)
	}
	if _, _, e := Where(strings.Repeat("a", api.MaxBytes+1), 0); e != api.ErrMany {
		t.Error(e)
	}
}

// With an error all other results are zero.
func TestZero(t *testing.T) {
	for _, at := range []int{-1, 0, 1, 2, 3} {
		if p, n, e := Next("a\xff", at); e != api.OK && (p != 0 || n != 0) {
			t.Error(at, p, n)
		}
		if p, n, e := Back("\xffa\xe2", at); e != api.OK && (p != 0 || n != 0) {
			t.Error(at, p, n)
		}
		if l, c, e := Where("a\xff", at); e != api.ErrUtf || l != 0 || c != 0 {
			t.Error(at, l, c, e)
		}
	}
	if l, c, e := Where("a\r", 2); l != 2 || c != 1 || e != api.OK {
		t.Error(l, c, e)
	}
	if l, c, e := Where("a\rb", 3); l != 2 || c != 2 || e != api.OK {
		t.Error(l, c, e)
	}
}
