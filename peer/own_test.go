package peer_test

import (
	"fmt"
	"math"
	"slices"
	"testing"

	"consulate/api"
	"consulate/caps"
	"consulate/peer"
)

// All of them are constants without a type.
var _ = [4]byte{peer.None, peer.Inside, peer.Confed, peer.Outside}

func TestConstants(t *testing.T) {
	if got := [4]int{peer.None, peer.Inside, peer.Confed, peer.Outside}; got != [4]int{0, 1, 2, 3} {
		t.Error(got)
	}
}

// tellable has numbers that may be told, at the edges of all kinds.
var tellable = []api.AS{
	1, 2, 100, 200, 255, 256, 23455, 23457, 64495, 64496, 64511, 64512, 65001, 65002, 65534, 65536, 65551, 65552, 70000, 88992,
	1 << 24, 1 << 31, 4199999999, 4200000000, 4294967293, 4294967294,
}

// untellable has all numbers that may not be told.
var untellable = []api.AS{0, 23456, 65535, 4294967295}

func TestTold(t *testing.T) {
	for _, n := range tellable {
		if !peer.Told(n) {
			t.Errorf("Told(%d): false", n)
		}
	}
	for _, n := range untellable {
		if peer.Told(n) {
			t.Errorf("Told(%d): true", n)
		}
	}
	for k := range api.AS(1 << 17) {
		for _, n := range []api.AS{k, math.MaxUint32 - k, k << 15, k*2654435761 + 1} {
			if got := peer.Told(n); got == slices.Contains(untellable, n) {
				t.Fatalf("Told(%d): %v", n, got)
			}
		}
	}
}

// example is the chapter's side.
func example() peer.Own {
	return peer.Own{Member: 65001, Confed: 100, Others: []api.AS{65002}, Id: 0x0A000001}
}

// alone is a side without a confederation.
func alone() peer.Own { return peer.Own{Member: 100, Confed: 100, Id: 1} }

// among is the example's side among so many others.
func among(many int) peer.Own {
	o := example()
	o.Others = nil
	for k := range many {
		o.Others = append(o.Others, 65002+api.AS(k))
	}
	return o
}

// with is the example's side with those others.
func with(others ...api.AS) peer.Own {
	o := example()
	o.Others = others
	return o
}

// sidesThatMay has sides that may be, by what is special of them.
func sidesThatMay() map[string]peer.Own {
	m := map[string]peer.Own{
		"the example":             example(),
		"alone":                   alone(),
		"alone, no others, empty": {Member: 100, Confed: 100, Others: []api.AS{}, Id: 1},
		"the only member":         with(),
		"the only one, empty":     with([]api.AS{}...),
		"15 others":               among(15),
		"16 others":               among(16),
		"others on both sides":    with(1, 99, 101, 65000, 65002, 70000),
		"others side by side":     with(1, 2, 3, 4),
		"all of edges":            with(1, 23455, 23457, 64496, 64511, 64512, 65534, 65536, 65551, 4199999999, 4200000000, 4294967294),
		"a wide member":           {Member: 70000, Confed: 4294967294, Others: []api.AS{1, 80000}, Id: 1},
		"a great one alone":       {Member: 4294967294, Confed: 4294967294, Id: 1},
	}
	for name, id := range map[string]api.IP{"the least Id": 1, "127.0.0.1": 0x7F000001, "128.0.0.0": 1 << 31, "the greatest Id": 0xDFFFFFFF} {
		o := example()
		o.Id = id
		m[name] = o
	}
	return m
}

// sidesThatMayNot has sides that may not be, most of them of one reason alone.
func sidesThatMayNot() map[string]peer.Own {
	m := map[string]peer.Own{
		"17 others":              among(17),
		"17 others, all one":     with(slices.Repeat([]api.AS{65002}, 17)...),
		"many others":            among(300),
		"falling":                with(65003, 65002),
		"falling at the end":     with(1, 2, 4, 3),
		"falling at the start":   with(3, 1, 4, 5),
		"falling, wide":          with(4200000000, 1),
		"one twice":              with(65002, 65002),
		"one twice at the end":   with(1, 2, 3, 3),
		"one twice at the start": with(1, 1, 2, 3),
		"one twice, apart":       with(65002, 65003, 65002),
		"Member among them":      with(65001),
		"Member at the start":    with(65001, 65002),
		"Member in the middle":   with(65000, 65001, 65002),
		"Member at the end":      with(65000, 65001),
		"Confed among them":      with(100),
		"Confed at the start":    with(100, 65002),
		"Confed in the middle":   with(99, 100, 65002),
		"Confed at the end":      with(99, 100),
		"alone, with another":    {Member: 100, Confed: 100, Others: []api.AS{200}, Id: 1},
		"alone, with itself":     {Member: 100, Confed: 100, Others: []api.AS{100}, Id: 1},
		"alone, with others":     {Member: 100, Confed: 100, Others: []api.AS{1, 2, 200}, Id: 1},
		"alone, without an Id":   {Member: 100, Confed: 100},
		"nothing":                {},
	}
	for name, id := range map[string]api.IP{"no Id": 0, "224.0.0.0": 0xE0000000, "224.0.0.1": 0xE0000001, "240.0.0.0": 0xF0000000, "255.255.255.255": math.MaxUint32} {
		o := example()
		o.Id = id
		m[name] = o
	}
	for _, n := range untellable {
		name := fmt.Sprint(n)
		for at := range 3 {
			o := with(1, 65002, 4294967294)
			o.Others[at] = n
			slices.Sort(o.Others)
			m[fmt.Sprint(name, " among them, for ", at)] = o
		}
		m[name+" as the only other"] = with(n)
		m[name+" as Member"] = peer.Own{Member: n, Confed: 100, Others: []api.AS{65002}, Id: 1}
		m[name+" as Member, the only one"] = peer.Own{Member: n, Confed: 100, Id: 1}
		m[name+" as Confed"] = peer.Own{Member: 65001, Confed: n, Others: []api.AS{65002}, Id: 1}
		m[name+" as Confed, of one alone"] = peer.Own{Member: 65001, Confed: n, Id: 1}
		m[name+" alone"] = peer.Own{Member: n, Confed: n, Id: 1}
	}
	return m
}

func TestMay(t *testing.T) {
	for name, o := range sidesThatMay() {
		if !o.May() {
			t.Errorf("%s: it may not be: %v", name, o)
		}
	}
	for name, o := range sidesThatMayNot() {
		if o.May() {
			t.Errorf("%s: it may be: %v", name, o)
		}
	}
}

// sameOwn tells whether both sides have the same fields.
func sameOwn(a, b peer.Own) bool {
	return a.Member == b.Member && a.Confed == b.Confed && a.Id == b.Id && slices.Equal(a.Others, b.Others)
}

// copied is a side that shares no memory with o.
func copied(o peer.Own) peer.Own {
	o.Others = slices.Clone(o.Others)
	return o
}

// TestSidesAreOnlyRead: R3, also what lies behind the others.
func TestSidesAreOnlyRead(t *testing.T) {
	sides := sidesThatMay()
	for name, o := range sidesThatMayNot() {
		sides[name] = o
	}
	for name, o := range sides {
		behind := append(slices.Clone(o.Others), 7, 6, 5)
		o.Others = behind[:len(o.Others)]
		was, wasBehind := copied(o), slices.Clone(behind)
		o.May()
		o.Class(65002)
		for class := range 5 {
			o.Tells(class)
			clearCaps(o.Caps(class))
		}
		clear(o.Members())
		_ = append(o.Members(), 1)
		if !sameOwn(o, was) || !slices.Equal(behind, wasBehind) {
			t.Errorf("%s: it is changed: %v, %v", name, o, behind)
		}
	}
}

func clearCaps(l []caps.Cap) {
	for _, c := range l {
		clear(c.Value)
	}
	clear(l)
}

func wantClass(t *testing.T, o peer.Own, n api.AS, class int) {
	t.Helper()
	if got := o.Class(n); got != class {
		t.Errorf("Class(%d) of %v: %d, want %d", n, o, got, class)
	}
}

func TestClassExamples(t *testing.T) {
	for n, class := range map[api.AS]int{65001: peer.Inside, 65002: peer.Confed, 200: peer.Outside, 100: peer.None, 23456: peer.None} {
		wantClass(t, example(), n, class)
	}
}

func TestClass(t *testing.T) {
	for _, c := range []struct {
		o       peer.Own
		classes map[api.AS]int
	}{
		{alone(), map[api.AS]int{100: 1, 99: 3, 101: 3, 65001: 3, 0: 0, 23456: 0, 65535: 0, 4294967295: 0, 65636: 3}},
		{with(), map[api.AS]int{65001: 1, 100: 0, 65002: 3, 65000: 3, 1: 3, 0: 0}},
		{with(1, 200, 4294967294), map[api.AS]int{1: 2, 2: 3, 199: 3, 200: 2, 201: 3, 65001: 1, 65002: 3, 4294967293: 3, 4294967294: 2, 4294967295: 0}},
		{among(16), map[api.AS]int{65000: 3, 65001: 1, 65002: 2, 65010: 2, 65017: 2, 65018: 3}},
		{ // what two bytes tell of a number is not that number
			peer.Own{Member: 70000, Confed: 80000, Others: []api.AS{90000}, Id: 1},
			map[api.AS]int{70000: 1, 90000: 2, 80000: 0, 23456: 0, 70000 - 65536: 3, 80000 - 65536: 3, 90000 - 65536: 3},
		},
	} {
		for n, class := range c.classes {
			wantClass(t, c.o, n, class)
		}
	}
}

// TestClassOfASideThatMayNotBe: None, whoever asks.
func TestClassOfASideThatMayNotBe(t *testing.T) {
	for name, o := range sidesThatMayNot() {
		for _, n := range slices.Concat(tellable, untellable, []api.AS{o.Member, o.Confed}, o.Others) {
			if got := o.Class(n); got != peer.None {
				t.Errorf("%s: Class(%d): %d", name, n, got)
			}
		}
	}
}

// noClasses are numbers of no class.
var noClasses = []int{math.MinInt, -4, -3, -2, -1, 0, 4, 5, 6, 7, 255, 256, 257, 258, 259, 1 << 32, 1<<32 + 1, 1<<32 + 2, 1<<32 + 3, math.MaxInt}

func TestTells(t *testing.T) {
	for name, o := range sidesThatMay() {
		for class, n := range map[int]api.AS{peer.Inside: o.Member, peer.Confed: o.Member, peer.Outside: o.Confed} {
			if got := o.Tells(class); got != n {
				t.Errorf("%s: Tells(%d): %d, want %d", name, class, got, n)
			}
		}
		for _, class := range noClasses {
			if got := o.Tells(class); got != 0 {
				t.Errorf("%s: Tells(%d): %d", name, class, got)
			}
		}
	}
	if o := example(); o.Tells(peer.Outside) != 100 || o.Tells(peer.Confed) != 65001 {
		t.Error("the example:", o.Tells(peer.Outside), o.Tells(peer.Confed))
	}
}

func wantCaps(t *testing.T, what string, got, want []caps.Cap) {
	t.Helper()
	same := func(a, b caps.Cap) bool { return a.Code == b.Code && slices.Equal(a.Value, b.Value) }
	if !slices.EqualFunc(got, want, same) {
		t.Errorf("%s: %v, want %v", what, got, want)
	}
}

func TestCaps(t *testing.T) {
	for name, o := range sidesThatMay() {
		for class, n := range map[int]api.AS{peer.Inside: o.Member, peer.Confed: o.Member, peer.Outside: o.Confed} {
			clearCaps(o.Caps(class))
			wantCaps(t, name, o.Caps(class), caps.Ours(n))
		}
		for _, class := range noClasses {
			wantCaps(t, name, o.Caps(class), nil)
		}
	}
	family, refresh := caps.Cap{Code: 1, Value: []byte{0, 1, 0, 1}}, caps.Cap{Code: 2}
	wantCaps(t, "inside", example().Caps(peer.Inside), []caps.Cap{family, refresh, {Code: 65, Value: []byte{0, 0, 0xFD, 0xE9}}})
	wantCaps(t, "confed", example().Caps(peer.Confed), []caps.Cap{family, refresh, {Code: 65, Value: []byte{0, 0, 0xFD, 0xE9}}})
	wantCaps(t, "outside", example().Caps(peer.Outside), []caps.Cap{family, refresh, {Code: 65, Value: []byte{0, 0, 0, 100}}})
}

// TestTellsOfASideThatMayNotBe: only Class hangs on that; the numbers are told
// as they are.
func TestTellsOfASideThatMayNotBe(t *testing.T) {
	for name, o := range sidesThatMayNot() {
		for class, n := range map[int]api.AS{peer.Inside: o.Member, peer.Confed: o.Member, peer.Outside: o.Confed} {
			if got := o.Tells(class); got != n {
				t.Errorf("%s: Tells(%d): %d, want %d", name, class, got, n)
			}
			wantCaps(t, name, o.Caps(class), caps.Ours(n))
		}
	}
}

func TestMembers(t *testing.T) {
	for _, c := range []struct {
		o    peer.Own
		want []api.AS
	}{
		{example(), []api.AS{65001, 65002}},
		{alone(), []api.AS{100}},
		{with(), []api.AS{65001}},
		{with(1, 2, 65000), []api.AS{1, 2, 65000, 65001}},
		{with(1, 65000, 65002, 4294967294), []api.AS{1, 65000, 65001, 65002, 4294967294}},
		{with(1<<31, 1<<31+1), []api.AS{65001, 1 << 31, 1<<31 + 1}},
		// of sides that may not be
		{with(7, 3, 70000, 5), []api.AS{3, 5, 7, 65001, 70000}},
		{with(100), []api.AS{100, 65001}},
		{with(4294967295, 0), []api.AS{0, 65001, 4294967295}},
		{with(65001, 3, 3), []api.AS{3, 3, 65001, 65001}},
		{peer.Own{}, []api.AS{0}},
	} {
		if got := c.o.Members(); !slices.Equal(got, c.want) {
			t.Errorf("Members of %v: %v, want %v", c.o, got, c.want)
		}
	}
}

func TestClassText(t *testing.T) {
	for class, want := range []string{"none", "inside", "confed", "outside"} {
		if got := peer.ClassText(class); got != want {
			t.Errorf("ClassText(%d): %q, want %q", class, got, want)
		}
	}
	for _, class := range noClasses {
		if got := peer.ClassText(class); class != peer.None && got != "" {
			t.Errorf("ClassText(%d): %q", class, got)
		}
	}
}
