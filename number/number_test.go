package number_test

import (
	"math"
	"testing"

	"consulate/api"
	"consulate/number"
)

// All of them are constants without a type: they go wherever a number goes.
var (
	_ byte   = number.Plain
	_ uint16 = number.Trans
	_ api.AS = number.Trans
)

func TestConstants(t *testing.T) {
	if number.Trans != 23456 {
		t.Error("Trans", number.Trans)
	}
	got := [5]int{number.Zero, number.TransKind, number.Private, number.Reserved, number.Plain}
	if got != [5]int{1, 2, 3, 4, 5} {
		t.Error("kinds", got)
	}
}

// kinds is the chapter's row of kinds, by the first and the last number of
// each piece of all that there are.
var kinds = []struct {
	first, last api.AS
	kind        int
}{
	{0, 0, 1},
	{1, 23455, 5},
	{23456, 23456, 2},
	{23457, 64495, 5},
	{64496, 64511, 4},
	{64512, 65534, 3},
	{65535, 65551, 4},
	{65552, 4199999999, 5},
	{4200000000, 4294967294, 3},
	{4294967295, 4294967295, 4},
}

// sample has the numbers of two bytes and many behind them, the edges of all
// kinds, each bit alone, and numbers from all over.
func sample() []api.AS {
	var l []api.AS
	for n := range api.AS(1 << 17) {
		l = append(l, n, 4199999999-n, 4200000000+n, math.MaxUint32-n, n<<16, n*2654435761)
	}
	for k := range 32 {
		l = append(l, 1<<k, 1<<k-1, 1<<k+1, ^api.AS(1<<k))
	}
	for _, k := range kinds {
		l = append(l, k.first, k.last, (k.first+k.last)/2)
	}
	return l
}

func TestKindAtEdges(t *testing.T) {
	next := uint64(0)
	for _, k := range kinds {
		if uint64(k.first) != next {
			t.Fatal("the test's pieces leave something out at", next)
		}
		next = uint64(k.last) + 1
		for _, n := range []api.AS{k.first, k.first + (k.last-k.first)/2, k.last} {
			if got := number.Kind(n); got != k.kind {
				t.Errorf("Kind(%d): %d, want %d", n, got, k.kind)
			}
		}
	}
	if next != 1<<32 {
		t.Fatal("the test's pieces end at", next)
	}
}

func TestKind(t *testing.T) {
	for _, n := range sample() {
		for _, k := range kinds {
			if got := number.Kind(n); n >= k.first && n <= k.last && got != k.kind {
				t.Fatalf("Kind(%d): %d, want %d", n, got, k.kind)
			}
		}
	}
}

func TestWide(t *testing.T) {
	for n, want := range map[api.AS]bool{
		0: false, 1: false, 23456: false, 32767: false, 32768: false, 65534: false, 65535: false,
		65536: true, 65537: true, 70000: true, 1 << 31: true, math.MaxUint32: true,
	} {
		if got := number.Wide(n); got != want {
			t.Errorf("Wide(%d): %v", n, got)
		}
	}
	for _, n := range sample() {
		if got := number.Wide(n); got != (n>>16 > 0) {
			t.Fatalf("Wide(%d): %v", n, got)
		}
	}
}

func TestShort(t *testing.T) {
	for n, want := range map[api.AS]uint16{
		0: 0, 1: 1, 255: 255, 256: 256, 23455: 23455, 23456: 23456, 23457: 23457, 65534: 65534, 65535: 65535,
		65536: 23456, 65537: 23456, 65546: 23456, 88992: 23456, 1 << 31: 23456, math.MaxUint32: 23456,
	} {
		if got := number.Short(n); got != want {
			t.Errorf("Short(%d): %d, want %d", n, got, want)
		}
	}
}

// TestShortIsTheNumberOrTrans: P4.4.
func TestShortIsTheNumberOrTrans(t *testing.T) {
	for _, n := range sample() {
		got := number.Short(n)
		isTrans := got == number.Trans
		if !isTrans && api.AS(got) != n {
			t.Fatalf("Short(%d): %d, neither the number nor Trans", n, got)
		}
		if isTrans != (number.Wide(n) || n == number.Trans) {
			t.Fatalf("Short(%d): %d", n, got)
		}
	}
}
