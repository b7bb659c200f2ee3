package scalar

import (
	"strings"
	"sync"
	"testing"

	"provost/api"
)

func num(n int64) api.Cell  { return api.Cell{Kind: api.Int, Int: n} }
func str(s string) api.Cell { return api.Cell{Kind: api.Text, Text: s} }
func yes(n int64) api.Cell  { return api.Cell{Kind: api.Bool, Int: n} }

const id = "0123abcd-4567-89ef-0000-0000000000ff"

// P16.1
func TestNames(t *testing.T) {
	names := []string{"Int", "String", "Boolean", "ID", "DateTime", "UUID", "Decimal", "URL"}
	for i, name := range names {
		kind, is := Of(name)
		if int(kind) != i+1 || !is {
			t.Error(name, kind)
		}
		if got, e := Name(kind); got != name || e != api.OK {
			t.Error(got, e)
		}
	}
	for _, name := range []string{"", "int", "Float", "Id", "Int "} {
		if kind, is := Of(name); kind != 0 || is {
			t.Error(name, kind)
		}
	}
	for _, kind := range []uint8{0, 9, 255} {
		if s, e := Name(kind); s != "" || e != api.ErrArg {
			t.Error(kind, e)
		}
		if c, e := Read(kind, num(1)); c != (api.Cell{}) || e != api.ErrArg {
			t.Error(kind, e)
		}
		if _, e := Compare(kind, api.Cell{}, api.Cell{}); e != api.ErrArg {
			t.Error(kind, e)
		}
		if _, e := Add(kind, api.Cell{}, api.Cell{}); e != api.ErrArg {
			t.Error(kind, e)
		}
		if _, e := Long(kind, api.Cell{}); e != api.ErrArg {
			t.Error(kind, e)
		}
	}
}

// P16.2, P16.3: what is read, and that it is read as itself.
func TestRead(t *testing.T) {
	for _, c := range []struct {
		kind     uint8
		in, want api.Cell
	}{
		{api.ScInt, num(-1 << 31), num(-1 << 31)}, {api.ScInt, num(1<<31 - 1), num(1<<31 - 1)}, {api.ScString, str(""), str("")}, {api.ScString, str(strings.Repeat("a", api.MaxBytes)), str(strings.Repeat("a", api.MaxBytes))},
		{api.ScBoolean, yes(0), yes(0)}, {api.ScBoolean, yes(1), yes(1)}, {api.ScId, num(7), str("7")}, {api.ScId, num(-1 << 63), str("-9223372036854775808")}, {api.ScId, str("x"), str("x")},
		{api.ScDateTime, str("2000-01-01t00:00:00.50+00:00"), str("2000-01-01T00:00:00.5Z")}, {api.ScUuid, str(strings.ToUpper(id)), str(id)}, {api.ScDecimal, str("1.50"), str("1.5")}, {api.ScDecimal, num(3), str("3")}, {api.ScDecimal, num(-1 << 63), str("-9223372036854775808")},
		{api.ScUrl, str("HTTP://A.b/%7e"), str("http://a.b/~")}, {api.ScInt, api.Cell{Kind: api.Int, Int: 1, Name: "n"}, num(1)}, {api.ScUrl, api.Cell{Kind: api.Text, Text: "a://", Name: "n"}, str("a://")},
	} {
		got, e := Read(c.kind, c.in)
		if got != c.want || e != api.OK {
			t.Error(c.kind, c.in, got, e)
		}
		if again, e := Read(c.kind, got); again != got || e != api.OK {
			t.Error(c.kind, got, e)
		}
	}
	some := []api.Cell{num(1), str("x"), yes(1), {}, {Kind: api.Enum, Text: "x"}, {Kind: api.Var, Text: "x"}, {Kind: api.List}, {Kind: api.Object}, {Kind: 9}}
	tells := map[uint8]string{1: "0", 2: "1", 3: "2", 4: "01", 5: "", 6: "", 7: "0", 8: ""}
	for kind, is := range tells {
		for i, c := range some {
			want := api.ErrScalar
			if strings.ContainsRune(is, rune('0'+i)) {
				want = api.OK
			}
			if _, e := Read(kind, c); e != want {
				t.Error(kind, c, e)
			}
		}
	}
	for _, c := range []struct {
		kind uint8
		in   api.Cell
	}{{1, num(1 << 31)}, {1, num(-1<<31 - 1)}, {1, api.Cell{Kind: api.Int, Text: "1"}}, {1, api.Cell{Kind: api.Int, Many: 1}}, {2, str("\xff")}, {2, str(strings.Repeat("a", api.MaxBytes+1))}, {2, api.Cell{Kind: api.Text, Int: 1}}, {3, yes(2)}, {3, yes(-1)}, {3, api.Cell{Kind: api.Bool, Text: "x"}}, {3, api.Cell{Kind: api.Bool, Many: 1}}, {4, str("")}, {4, str("\x80")}, {5, str("2000-01-01")}, {6, str(id[1:])}, {7, str("01")}, {7, str("")}, {8, str("a:b")}} {
		if got, e := Read(c.kind, c.in); got != (api.Cell{}) || e != api.ErrScalar {
			t.Error(c, got, e)
		}
	}
}

// P16.2, P16.3, V4: orders.
func TestCompare(t *testing.T) {
	rising := map[uint8][]api.Cell{
		1: {num(-1 << 31), num(-1), num(0), num(2), num(10)}, 2: {str(""), str("A"), str("a"), str("ab"), str("\u00e9")}, 4: {str("10"), str("9"), str("a")},
		5: {str("1999-12-31T23:59:59Z"), str("2000-01-01T00:00:00Z"), str("2000-01-01T00:00:00.5Z")}, 6: {str(id), str("f" + id[1:])}, 7: {str("-10"), str("-9.5"), str("0"), str("0.15"), str("0.2"), str("10")},
	}
	for kind := uint8(1); kind <= 8; kind++ {
		l := rising[kind]
		for i, a := range l {
			for j, b := range l {
				want := 0
				if i < j {
					want = -1
				} else if i > j {
					want = 1
				}
				if n, e := Compare(kind, a, b); n != want || e != api.OK {
					t.Error(kind, a, b, n, e)
				}
			}
		}
		if l == nil {
			if _, e := Compare(kind, api.Cell{}, api.Cell{}); e != api.ErrNone {
				t.Error(kind, e)
			}
			continue
		}
		named := l[0]
		named.Name = "n"
		for _, bad := range []api.Cell{{}, named, {Kind: api.List}} {
			if n, e := Compare(kind, l[0], bad); n != 0 || e != api.ErrScalar {
				t.Error(kind, bad, e)
			}
			if n, e := Compare(kind, bad, l[0]); n != 0 || e != api.ErrScalar {
				t.Error(kind, bad, e)
			}
		}
	}
	if _, e := Compare(api.ScDecimal, str("1.50"), str("1")); e != api.ErrScalar {
		t.Error(e)
	}
	if _, e := Compare(api.ScId, num(7), num(7)); e != api.ErrScalar {
		t.Error(e)
	}
}

func TestAddAndLong(t *testing.T) {
	for _, c := range []struct {
		kind uint8
		a, b api.Cell
		want api.Cell
		e    api.Errno
	}{
		{1, num(1), num(2), num(3), api.OK}, {1, num(1<<31 - 1), num(1), api.Cell{}, api.ErrOver}, {1, num(-1 << 31), num(-1), api.Cell{}, api.ErrOver}, {1, num(1<<31 - 1), num(-1 << 31), num(-1), api.OK},
		{7, str("0.5"), str("0.5"), str("1"), api.OK}, {7, str("9223372036854775807"), str("0.1"), api.Cell{}, api.ErrOver}, {7, str("0.50"), str("1"), api.Cell{}, api.ErrScalar}, {1, num(1), str("1"), api.Cell{}, api.ErrScalar}, {1, num(1 << 31), num(0), api.Cell{}, api.ErrScalar},
		{2, str("a"), str("b"), api.Cell{}, api.ErrNone}, {8, api.Cell{}, api.Cell{}, api.Cell{}, api.ErrNone},
	} {
		if got, e := Add(c.kind, c.a, c.b); got != c.want || e != c.e {
			t.Error(c, got, e)
		}
	}
	for _, c := range []struct {
		kind uint8
		c    api.Cell
		n    int
		e    api.Errno
	}{{2, str("a\u00e9\U0001f600"), 3, api.OK}, {2, str(""), 0, api.OK}, {4, str("77"), 2, api.OK}, {8, str("a://b"), 5, api.OK}, {8, str("A://b"), 0, api.ErrScalar}, {4, num(7), 0, api.ErrScalar}, {2, api.Cell{Kind: api.Text, Name: "n"}, 0, api.ErrScalar}, {1, num(1), 0, api.ErrNone}, {3, yes(1), 0, api.ErrNone}, {5, num(1), 0, api.ErrNone}, {6, num(1), 0, api.ErrNone}, {7, num(1), 0, api.ErrNone}} {
		if n, e := Long(c.kind, c.c); n != c.n || e != c.e {
			t.Error(c, n, e)
		}
	}
}

// Ways: the table is made of the rows when it is first asked, by Name alone, and it is counted how often that is.
func TestTable(t *testing.T) {
	before := asked.Load()
	Of("URL")
	Read(api.ScUrl, str("a://b"))
	Compare(api.ScDecimal, str("1"), str("2"))
	Add(api.ScInt, num(1), num(2))
	Long(api.ScString, str("a"))
	if asked.Load() != before {
		t.Error("another call than Name asked the table")
	}
	for kind := range 256 {
		Name(uint8(kind))
	}
	if n := asked.Load() - before; n != 256 {
		t.Error(n)
	}
	if table != rows() {
		t.Error(table)
	}
	for kind := range 256 {
		a, b := ask(uint8(kind))
		if r, is := rowOf(uint8(kind)); r != a || is != b || is != (kind >= 1 && kind <= 8) {
			t.Error(kind, r, a)
		}
	}
}

// The table may be asked by many at once.
func TestAtOnce(t *testing.T) {
	before := asked.Load()
	var all sync.WaitGroup
	for range 8 {
		all.Go(func() {
			if name, e := Name(api.ScUrl); name != "URL" || e != api.OK {
				t.Error(name, e)
			}
			if kind, is := Of("URL"); kind != api.ScUrl || !is {
				t.Error(kind)
			}
		})
	}
	all.Wait()
	if n := asked.Load() - before; n != 8 {
		t.Error(n)
	}
}
