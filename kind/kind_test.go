package kind

import (
	"slices"
	"testing"

	"provost/api"
	"provost/lit"
)

func of(name string, wraps ...uint8) api.Ref { return api.Ref{Name: name, Wraps: wraps} }

func same(a, b api.Ref) bool { return a.Name == b.Name && slices.Equal(a.Wraps, b.Wraps) }

const (
	non = api.WrapNon
	lst = api.WrapList
)

// P22.1
func TestClass(t *testing.T) {
	l := []api.Def{{Kind: 9, Name: "E"}, {Kind: 0, Name: "X"}, {Kind: api.DefEnum, Name: "E"}, {Kind: api.DefInput, Name: "I"}, {Kind: api.DefType, Name: "T"}, {Kind: api.DefType, Name: "I"}, {Kind: api.DefType, Name: "URL"}}
	for name, want := range map[string][2]int{"Int": {1, 1}, "URL": {1, 8}, "E": {2, 2}, "I": {3, 3}, "T": {4, 4}, "X": {0, 0}, "": {0, 0}, "int": {0, 0}} {
		if class, at := Class(l, name); int(class) != want[0] || at != want[1] {
			t.Error(name, class, at)
		}
	}
	if class, at := Class(nil, "T"); class != 0 || at != 0 {
		t.Error(class, at)
	}
}

func TestBareAndItem(t *testing.T) {
	for _, c := range []struct {
		t, bare, item api.Ref
		is            bool
	}{
		{of("a"), of("a"), api.Ref{}, false}, {of("a", non), of("a"), api.Ref{}, false}, {of("a", lst), of("a", lst), of("a"), true}, {of("a", non, lst, non), of("a", lst, non), of("a", non), true},
		{of("a", non, non, lst), of("a", non, lst), api.Ref{}, false}, {of("a", 7, lst), of("a", 7, lst), api.Ref{}, false}, {of("a", non, 7), of("a", 7), api.Ref{}, false}, {of("", lst, lst), of("", lst, lst), of("", lst), true},
	} {
		if got := Bare(c.t); !same(got, c.bare) {
			t.Error(c.t, got)
		}
		if got, is := Item(c.t); !same(got, c.item) || is != c.is {
			t.Error(c.t, got, is)
		}
	}
	x := of("a", lst, lst)
	b := Bare(x)
	i, _ := Item(x)
	b.Wraps[0], i.Wraps[0] = 9, 9
	if !same(x, of("a", lst, lst)) {
		t.Error("memory is shared")
	}
}

// fits is the chapter's words once more.
func fits(from, to api.Ref) bool {
	may := func(t api.Ref) bool { return len(t.Wraps) == 0 || t.Wraps[0] != non }
	if !may(to) {
		return !may(from) && fits(Bare(from), Bare(to))
	}
	if !may(from) {
		return fits(Bare(from), to)
	}
	if item, is := Item(to); is {
		mine, is := Item(from)
		return is && fits(mine, item)
	}
	return len(from.Wraps)+len(to.Wraps) == 0 && from.Name == to.Name
}

// P22.2, P22.4: all types of few wrappers.
func TestFits(t *testing.T) {
	var all []api.Ref
	for _, name := range []string{"a", "b"} {
		all = append(all, of(name), of(name, 0), of(name, 3, 2))
		for _, x := range []uint8{1, 2} {
			all = append(all, of(name, x))
			for _, y := range []uint8{1, 2, 7} {
				all = append(all, of(name, x, y))
				for _, z := range []uint8{1, 2} {
					all = append(all, of(name, x, y, z))
				}
			}
		}
	}
	for _, a := range all {
		_, e := lit.TypeTokens(a)
		if e == api.OK && !Fits(a, a) {
			t.Error(a)
		}
		for _, b := range all {
			if Fits(a, b) != fits(a, b) {
				t.Error(a, b)
			}
			if Fits(a, b) && Fits(b, a) && !same(a, b) {
				t.Error(a, b)
			}
			for _, c := range all {
				if Fits(a, b) && Fits(b, c) && !Fits(a, c) {
					t.Error(a, b, c)
				}
			}
		}
	}
	for _, c := range []struct {
		from, to api.Ref
		is       bool
	}{{of("Int", non), of("Int"), true}, {of("Int"), of("Int", non), false}, {of("Int", non, lst, non), of("Int", lst), true}, {of("Int"), of("Int", lst), false}, {of("Int", lst), of("Int"), false}, {of("Int", lst), of("Int", lst, non), false}, {of("Int"), of("ID"), false}} {
		if Fits(c.from, c.to) != c.is {
			t.Error(c.from, c.to)
		}
	}
	long := make([]uint8, 100000)
	for i := range long {
		long[i] = lst
	}
	if !Fits(of("a", long...), of("a", long...)) || Fits(of("a", long...), of("b", long...)) {
		t.Error("long")
	}
}

func TestUsable(t *testing.T) {
	one := []api.Cell{{Kind: api.Int, Int: 1}}
	for i, c := range []struct {
		v   api.Input
		to  api.Ref
		has bool
		is  bool
	}{
		{api.Input{Type: of("Int"), Has: true, Default: one}, of("Int", non), false, true}, {api.Input{Type: of("Int"), Has: true, Default: []api.Cell{{}}}, of("Int", non), false, false}, {api.Input{Type: of("Int")}, of("Int", non), true, true}, {api.Input{Type: of("Int")}, of("Int", non), false, false}, {api.Input{Type: of("Int", non)}, of("Int", non), false, true},
		{api.Input{Type: of("Int")}, of("Int"), false, true}, {api.Input{Type: of("ID")}, of("Int", non), true, false}, {api.Input{Type: of("Int"), Default: one}, of("Int", non), false, false}, {api.Input{Type: of("Int", lst)}, of("Int", lst, non), true, false}, {api.Input{Type: of("Int", lst)}, of("Int", non, lst), true, true}, {api.Input{Type: of("Int", non)}, of("Int"), false, true}, {api.Input{Type: of("Int"), Has: true, Default: []api.Cell{{}}}, of("Int", non), true, true},
	} {
		if Usable(c.v, c.to, c.has) != c.is {
			t.Error(i)
		}
	}
}
