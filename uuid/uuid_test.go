package uuid

import (
	"strings"
	"testing"

	"provost/api"
)

const some = "0123ABCD-4567-89ef-0000-0000000000ff"

// P13.1: the examples, and what is no UUID.
func TestParse(t *testing.T) {
	want := [16]byte{1, 35, 171, 205, 69, 103, 137, 239, 15: 255}
	if b, e := Parse(some); b != want || e != api.OK {
		t.Error(b, e)
	}
	if s := Text(want); s != strings.ToLower(some) {
		t.Error(s)
	}
	if s, e := Canon(some); s != strings.ToLower(some) || e != api.OK {
		t.Error(s, e)
	}
	if b, e := Parse("00000000-0000-0000-0000-000000000000"); b != [16]byte{} || e != api.OK {
		t.Error(b, e)
	}
	bad := []string{"", strings.ReplaceAll(some, "-", ""), "{" + some + "}", some[1:], some + "0", "urn:uuid:" + some, strings.Replace(some, "ef-0", "e-f0", 1), strings.Repeat("-", 36), strings.Repeat("0", 36), some[:35] + "g", some[:35] + "\xff", some[:34] + "\u00e9", some[:8] + "+" + some[9:], strings.Repeat("a", 100000)}
	for i := range some {
		bad = append(bad, some[:i]+"x"+some[i+1:], some[:i]+some[i+1:])
	}
	for _, s := range bad {
		if b, e := Parse(s); b != [16]byte{} || e != api.ErrUuid {
			t.Errorf("%.50q %v %v", s, b, e)
		}
		if c, e := Canon(s); c != "" || e != api.ErrUuid {
			t.Errorf("%.50q %v %v", s, c, e)
		}
	}
}

// P13.2: a text tells its UUID, and the order is that of texts.
func TestOrder(t *testing.T) {
	var all [][16]byte
	for i := range 16 {
		for _, x := range []byte{0, 1, 9, 10, 127, 128, 255} {
			b := [16]byte{3, 4, 5}
			b[i] = x
			all = append(all, b)
		}
	}
	for _, a := range all {
		if b, e := Parse(Text(a)); b != a || e != api.OK {
			t.Error(a, b, e)
		}
		if b, e := Parse(strings.ToUpper(Text(a))); b != a || e != api.OK {
			t.Error(a, b, e)
		}
		for _, b := range all {
			if Compare(a, b) != strings.Compare(Text(a), Text(b)) {
				t.Error(a, b)
			}
		}
	}
}
