package day

import (
	"strings"
	"testing"
	"time"

	"provost/api"
)

// zero is the year 0000 in the library's seconds.
var zero = time.Date(0, 1, 1, 0, 0, 0, 0, time.UTC).Unix()

// P12.2: the examples, and the edges of each part.
func TestParse(t *testing.T) {
	for s, want := range map[string]struct {
		d    api.Day
		text string
	}{
		"0000-01-01T00:00:00Z":           {api.Day{}, "0000-01-01T00:00:00Z"},
		"1970-01-01t00:00:00.50z":        {api.Day{Second: 62167219200, Nano: 500000000}, "1970-01-01T00:00:00.5Z"},
		"2000-02-29T23:59:59-00:30":      {api.Day{Second: 63119089799}, "2000-03-01T00:29:59Z"},
		"9999-12-31T23:59:59.999999999Z": {api.Day{Second: api.LastDay, Nano: 999999999}, "9999-12-31T23:59:59.999999999Z"},
		"0000-01-01T23:59:00+23:59":      {api.Day{}, "0000-01-01T00:00:00Z"}, "9999-12-31T00:00:59-23:59": {api.Day{Second: api.LastDay}, "9999-12-31T23:59:59Z"},
		"0000-02-29T00:00:00-00:00": {api.Day{Second: 59 * 86400}, "0000-02-29T00:00:00Z"}, "0000-01-01T00:00:00.000000001Z": {api.Day{Nano: 1}, "0000-01-01T00:00:00.000000001Z"}, "0000-01-01T00:00:00.000Z": {api.Day{}, "0000-01-01T00:00:00Z"},
	} {
		d, e := Parse(s)
		if d != want.d || e != api.OK {
			t.Error(s, d, e)
		}
		if got, e := Text(d); got != want.text || e != api.OK {
			t.Error(s, got, e)
		}
	}
	good := "2001-02-03T04:05:06.7+08:09"
	for _, s := range []string{"", "1900-02-29T00:00:00Z", "0000-01-01T00:00:00+00:01", "9999-12-31T23:59:59-00:01", "2000-01-01T00:00:60Z", "2000-01-01T00:60:00Z", "2000-01-01T24:00:00Z", "2000-00-01T00:00:00Z", "2000-13-01T00:00:00Z", "2000-01-00T00:00:00Z", "2000-01-32T00:00:00Z", "2000-04-31T00:00:00Z", "2001-02-29T00:00:00Z", "2000-02-30T00:00:00Z",
		"2000-01-01T00:00:00", "2000-01-01 00:00:00Z", "2000-01-01T00:00:00.Z", "2000-01-01T00:00:00.1234567890Z", "2000-01-01T00:00:00.0123456789Z", "2000-01-01T00:00:00.0000000000Z", "2000-01-01T00:00:00+24:00", "2000-01-01T00:00:00+00:60", "2000-01-01T00:00:00+0000", "2000-01-01T00:00:00+00", "2000-01-01T00:00:00Zx", "2000-01-01T00:00:00ZZ", " 2000-01-01T00:00:00Z", "200-01-01T00:00:00Z", "02000-01-01T00:00:00Z", "-200-01-01T00:00:00Z", "2000-1-01T00:00:00Z", "2000-01-01", "2000-01-01T00:00:00,5Z", "2000-01-01T00:00:00\x00", "2000-01-01T00:00:00\xc3Z", "2000-01-01T00:00:00\u0661Z", "2000/01/01T00:00:00Z", "2000-01-01T00:00:00.5", "+200-01-01T00:00:00Z", strings.Repeat("2", 1000)} {
		if d, e := Parse(s); d != (api.Day{}) || e != api.ErrDay {
			t.Error(s, d, e)
		}
	}
	// No part of one that is good may be left out, or be an x.
	for i := range good {
		for _, s := range []string{good[:i], good[:i] + "x" + good[i+1:]} {
			if _, e := Parse(s); e != api.ErrDay {
				t.Error(s, e)
			}
		}
	}
}

// P12.1, P12.3: each day of the calendar, held against the library.
func TestCalendar(t *testing.T) {
	was := ""
	for n := int64(0); n*86400 <= api.LastDay; n++ {
		d := api.Day{Second: n*86400 + n%86400}
		y, m, date, e := Date(d)
		ly, lm, ld := time.Unix(d.Second+zero, 0).UTC().Date()
		if e != api.OK || y != ly || m != int(lm) || date != ld {
			t.Fatal(n, y, m, date, e)
		}
		if n%97 != 0 && n > 800 {
			continue
		}
		s, e := Text(d)
		if e != api.OK || s <= was || s != time.Unix(d.Second+zero, 0).UTC().Format("2006-01-02T15:04:05Z") {
			t.Fatal(d, s, e)
		}
		was = s
		if back, e := Parse(s); back != d || e != api.OK {
			t.Fatal(s, back, e)
		}
	}
	a, _ := Parse("2000-01-01T12:00:00+12:00")
	b, _ := Parse("1999-12-31T19:30:00-04:30")
	if a != b {
		t.Error(a, b)
	}
}

func TestCheckAndCompare(t *testing.T) {
	for _, d := range []api.Day{{Second: -1}, {Second: api.LastDay + 1}, {Nano: -1}, {Nano: 1000000000}, {Second: 1 << 62}} {
		if Check(d) != api.ErrDay {
			t.Error(d)
		}
		if s, e := Text(d); s != "" || e != api.ErrDay {
			t.Error(d, s, e)
		}
		if y, m, n, e := Date(d); y+m+n != 0 || e != api.ErrDay {
			t.Error(d, e)
		}
	}
	if Check(api.Day{}) != api.OK || Check(api.Day{Second: api.LastDay, Nano: 999999999}) != api.OK {
		t.Error("check")
	}
	order := []api.Day{{Second: -1 << 63, Nano: 9}, {Second: -1, Nano: 5}, {Nano: -1}, {}, {Nano: 1}, {Second: 1, Nano: -7}, {Second: 1 << 62}}
	for i, a := range order {
		for j, b := range order {
			want := 0
			if i < j {
				want = -1
			} else if i > j {
				want = 1
			}
			if Compare(a, b) != want {
				t.Error(a, b)
			}
		}
	}
}
