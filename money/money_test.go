package money

import (
	"math"
	"math/big"
	"strings"
	"testing"

	"provost/api"
)

func of(n int64, scale int) api.Money { return api.Money{Mantissa: n, Scale: scale} }

// P14.1: texts.
func TestParse(t *testing.T) {
	for s, want := range map[string]struct {
		m    api.Money
		text string
	}{
		"12.50": {of(125, 1), "12.5"}, "-0.000": {of(0, 0), "0"}, "-0": {of(0, 0), "0"}, "9223372036854775807": {of(math.MaxInt64, 0), "9223372036854775807"}, "-9223372036854775808": {of(math.MinInt64, 0), "-9223372036854775808"},
		"-9.223372036854775808": {of(math.MinInt64, 18), "-9.223372036854775808"}, "0.000000000000000001": {of(1, 18), "0.000000000000000001"}, "-0.005": {of(-5, 3), "-0.005"}, "1200": {of(1200, 0), "1200"}, "0.10": {of(1, 1), "0.1"}, "100.00": {of(100, 0), "100"}, "0.000000000000000000": {of(0, 0), "0"},
		"922337203685477580.70": {api.Money{}, "!"}, "922337203685477580.7": {of(math.MaxInt64, 1), "922337203685477580.7"},
	} {
		m, e := Parse(s)
		if want.text == "!" {
			if e != api.ErrMoney {
				t.Error(s, m, e)
			}
			continue
		}
		if m != want.m || e != api.OK {
			t.Error(s, m, e)
		}
		if got, e := Text(m); got != want.text || e != api.OK || len(got) > len(s) {
			t.Error(s, got, e)
		}
	}
	for _, s := range []string{"", "-", "007", "1.", ".5", "+1", "1e2", "-.5", "00", "-01", "1.2.3", "1 ", " 1", "1,5", "0.9223372036854775808", "9223372036854775808", "-9223372036854775809", "1.0000000000000000000", "0.0000000000000000000", "--1", "1.-5", "\u0661", "-9223372036854775808.0", strings.Repeat("9", 100000)} {
		if m, e := Parse(s); m != (api.Money{}) || e != api.ErrMoney {
			t.Errorf("%.40q %v %v", s, m, e)
		}
	}
	for _, m := range []api.Money{of(10, 1), of(0, 1), of(1, -1), of(1, 19), of(0, 18), of(100, 1), of(1, 1<<40)} {
		if Check(m) != api.ErrMoney {
			t.Error(m)
		}
		if s, e := Text(m); s != "" || e != api.ErrMoney {
			t.Error(m, s, e)
		}
		if n, e := Compare(of(1, 0), m); n != 0 || e != api.ErrMoney {
			t.Error(m, n, e)
		}
		if n, e := Add(m, of(1, 0)); n != (api.Money{}) || e != api.ErrMoney {
			t.Error(m, n, e)
		}
	}
	if Of(1200) != of(1200, 0) || Of(math.MinInt64) != of(math.MinInt64, 0) || Check(Of(0)) != api.OK {
		t.Error("of")
	}
}

// rat is the number that a Decimal is.
func rat(m api.Money) *big.Rat {
	ten := new(big.Int).Exp(big.NewInt(10), big.NewInt(int64(m.Scale)), nil)
	return new(big.Rat).SetFrac(big.NewInt(m.Mantissa), ten)
}

// may tells whether a Decimal that may be is a number.
func may(r *big.Rat) bool {
	for scale := range int64(19) {
		ten := new(big.Rat).SetInt(new(big.Int).Exp(big.NewInt(10), big.NewInt(scale), nil))
		if n := new(big.Rat).Mul(r, ten); n.IsInt() && n.Num().IsInt64() {
			return true
		}
	}
	return false
}

// P14.2, P14.3: held against numbers of any size.
func TestSums(t *testing.T) {
	var all []api.Money
	for _, n := range []int64{0, 1, -1, 5, -5, 9, 10, 999, math.MaxInt64, math.MaxInt64 - 1, math.MinInt64, math.MinInt64 + 1, 1 << 62, -1 << 62, 1000000000000000000, 3, 7, 123456789012345678} {
		for _, scale := range []int{0, 1, 2, 9, 17, 18} {
			if m := of(n, scale); Check(m) == api.OK {
				all = append(all, m)
			}
		}
	}
	for _, a := range all {
		s, e := Text(a)
		if back, f := Parse(s); back != a || e != api.OK || f != api.OK {
			t.Error(a, s, back)
		}
		for _, b := range all {
			if got, e := Compare(a, b); got != rat(a).Cmp(rat(b)) || e != api.OK {
				t.Error(a, b, got, e)
			}
			want := new(big.Rat).Add(rat(a), rat(b))
			got, e := Add(a, b)
			if may(want) != (e == api.OK) || e != api.OK && (e != api.ErrOver || got != api.Money{}) {
				t.Error(a, b, got, e)
				continue
			}
			if e == api.OK && (Check(got) != api.OK || rat(got).Cmp(want) != 0) {
				t.Error(a, b, got)
			}
		}
	}
	if m, e := Add(of(1, 1), of(9, 1)); m != of(1, 0) || e != api.OK {
		t.Error(m, e)
	}
	if _, e := Add(of(math.MaxInt64, 0), of(1, 1)); e != api.ErrOver {
		t.Error(e)
	}
	if n, e := Compare(of(2, 1), of(15, 2)); n != 1 || e != api.OK {
		t.Error(n, e)
	}
}
