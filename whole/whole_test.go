package whole

import (
	"math"
	"math/big"
	"strings"
	"testing"

	"provost/api"
)

var edges = []int64{math.MinInt64, math.MinInt64 + 1, -1 << 62, -3037000501, -3037000500, -1 << 32, -1 << 31, -10, -2, -1, 0, 1, 2, 3, 7, 1<<31 - 1, 1 << 31, 3037000499, 3037000500, 1 << 62, math.MaxInt64 - 1, math.MaxInt64}

// hold holds an answer against the number that it is to be.
func hold(t *testing.T, what string, want *big.Int, got int64, e api.Errno) {
	t.Helper()
	if want.IsInt64() && (e != api.OK || got != want.Int64()) || !want.IsInt64() && (e != api.ErrOver || got != 0) {
		t.Error(what, want, got, e)
	}
}

// P2.1 and P2.3, at all edges.
func TestSums(t *testing.T) {
	for _, a := range edges {
		x := big.NewInt(a)
		n, e := Neg(a)
		hold(t, "neg", new(big.Int).Neg(x), n, e)
		for _, b := range edges {
			y := big.NewInt(b)
			n, e := Add(a, b)
			hold(t, "add", new(big.Int).Add(x, y), n, e)
			if e == api.OK {
				if m, e := Sub(n, b); e != api.OK || m != a {
					t.Error("back", a, b, m, e)
				}
			}
			n, e = Sub(a, b)
			hold(t, "sub", new(big.Int).Sub(x, y), n, e)
			n, e = Mul(a, b)
			hold(t, "mul", new(big.Int).Mul(x, y), n, e)
		}
	}
}

// P2.2 and P2.3: what is written is read.
func TestReadAndWrite(t *testing.T) {
	for _, a := range edges {
		s := Write(a)
		if s != big.NewInt(a).String() {
			t.Error(a, s)
		}
		if n, e := Read(s); n != a || e != api.OK {
			t.Error(a, n, e)
		}
		if Small(a) != (a == int64(int32(a))) {
			t.Error("small", a)
		}
	}
	if n, e := Read("-0"); n != 0 || e != api.OK {
		t.Error(n, e)
	}
	for _, s := range []string{"", "-", "01", "+1", "-01", "00", "1 ", " 1", "1x", "--1", "-+1", "1.0", "0x1", "\u0661", "-00"} {
		if n, e := Read(s); n != 0 || e != api.ErrDigits {
			t.Error(s, n, e)
		}
	}
	for _, s := range []string{"9223372036854775808", "-9223372036854775809", "18446744073709551616", "18446744073709551615", "184467440737095516150", strings.Repeat("9", 100000), "-" + strings.Repeat("9", 30)} {
		if n, e := Read(s); n != 0 || e != api.ErrOver {
			t.Error(len(s), n, e)
		}
	}
	if _, e := Read(strings.Repeat("9", 100) + "x"); e != api.ErrDigits {
		t.Error(e)
	}
}
