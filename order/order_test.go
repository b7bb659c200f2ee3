package order

import (
	"slices"
	"strconv"
	"strings"
	"testing"

	"provost/api"
)

var some = []string{"", "\x00", "A", "Z", "a", "a\x00", "aa", "ab", "b", "\x7f", "\xc3\xa9", "\xff", "\xff\xff"}

// P5.1, P5.4: the order is one.
func TestCompare(t *testing.T) {
	for i, a := range some {
		for j, b := range some {
			want := 0
			if i < j {
				want = -1
			} else if i > j {
				want = 1
			}
			if got := Compare(a, b); got != want {
				t.Errorf("%q %q %d", a, b, got)
			}
		}
	}
	if Check(some) != api.OK || Check(nil) != api.OK || Check([]string{"a", "a"}) != api.ErrBad || Check([]string{"b", "a"}) != api.ErrBad {
		t.Error("check")
	}
}

// full is a list of as many as there may be.
func full() []string {
	var l []string
	for i := range api.MaxList {
		l = append(l, strconv.Itoa(100000+i))
	}
	return l
}

func TestFind(t *testing.T) {
	l := []string{"a", "c"}
	for s, want := range map[string]int{"": 0, "b": 1, "d": 2, "a\x00": 1} {
		if at, is := Find(l, s); at != want || is {
			t.Error(s, at, is)
		}
	}
	if at, is := Find([]string{"b", "a", "c"}, "c"); at != 0 || is {
		t.Error(at, is)
	}
	long := full()
	for i, s := range long {
		if at, is := Find(long, s); at != i || !is {
			t.Fatal(i, at, is)
		}
	}
	if at, is := Find(append(long, "z"), "z"); at != 0 || is {
		t.Error(at, is)
	}
}

// P5.2 to P5.4.
func TestPutDropSort(t *testing.T) {
	var l []string
	for _, s := range []string{"b", "a", "", "b", "\xff", "ab"} {
		was := strings.Join(l, "|")
		m, e := Put(l, s)
		if e != api.OK || Check(m) != api.OK {
			t.Fatal(m, e)
		}
		if at, is := Find(m, s); !is || m[at] != s {
			t.Error(s)
		}
		if strings.Join(l, "|") != was {
			t.Error("changed")
		}
		l = m
	}
	sorted, e := Sort([]string{"b", "a", "", "b", "\xff", "ab"})
	if e != api.OK || !slices.Equal(sorted, l) || !slices.Equal(l, []string{"", "a", "ab", "b", "\xff"}) {
		t.Error(sorted, l, e)
	}
	m, e := Put(l, "a")
	if e != api.OK || !slices.Equal(m, l) {
		t.Error(m, e)
	}
	m[0] = "spoilt"
	if l[0] != "" {
		t.Error("memory is shared")
	}
	d, e := Drop(l, "ab")
	if e != api.OK || !slices.Equal(d, []string{"", "a", "b", "\xff"}) || len(l) != 5 {
		t.Error(d, e)
	}
	d[0] = "spoilt"
	if l[0] != "" || l[2] != "ab" {
		t.Error("memory is shared")
	}
	if d, e := Drop([]string{"a"}, "b"); d != nil || e != api.ErrNone {
		t.Error(d, e)
	}
	if s, e := Sort(nil); len(s) != 0 || e != api.OK {
		t.Error(s, e)
	}
}

func TestLimits(t *testing.T) {
	l := full()
	if _, e := Put(l, "z"); e != api.ErrFull {
		t.Error(e)
	}
	if m, e := Put(l, l[7]); e != api.OK || len(m) != api.MaxList {
		t.Error(e)
	}
	if m, e := Sort(l); e != api.OK || !slices.Equal(l, m) {
		t.Error(e)
	}
	if _, e := Sort(append(l, l[0])); e != api.ErrMany {
		t.Error(e)
	}
	bad := append(slices.Clone(l), "z")
	if Check(bad) != api.ErrBad {
		t.Error("check")
	}
	if _, e := Put(bad, "z"); e != api.ErrBad {
		t.Error(e)
	}
	if _, e := Drop(bad, "z"); e != api.ErrBad {
		t.Error(e)
	}
	if _, e := Drop([]string{"b", "a"}, "c"); e != api.ErrBad {
		t.Error(e)
	}
}
