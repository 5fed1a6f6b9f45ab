package caps_test

import (
	"math"
	"slices"
	"testing"

	"consulate/api"
	"consulate/caps"
)

// All of them are constants without a type: they go wherever a code goes.
var _ = [3]byte{caps.Family, caps.Refresh, caps.Four}

func TestConstants(t *testing.T) {
	if got := [3]int{caps.Family, caps.Refresh, caps.Four}; got != [3]int{1, 2, 65} {
		t.Error(got)
	}
}

// numbers has the edges of each byte of a number.
var numbers = []api.AS{
	0, 1, 255, 256, 23456, 65001, 65535, 65536, 70000, 1<<24 - 1, 1 << 24, 0x01020304, 1 << 31, 4200000000, math.MaxUint32,
}

func oursOf(n api.AS) []caps.Cap {
	return []caps.Cap{one(1, 0, 1, 0, 1), one(2), one(65, byte(n>>24), byte(n>>16), byte(n>>8), byte(n))}
}

func TestOurs(t *testing.T) {
	for _, n := range numbers {
		l := caps.Ours(n)
		if !slices.EqualFunc(l, oursOf(n), sameCap) {
			t.Errorf("Ours(%d): %v", n, l)
		}
		if !caps.Refreshes(l) || !caps.IPv4(l) {
			t.Errorf("Ours(%d): refreshes %v, IPv4 %v", n, caps.Refreshes(l), caps.IPv4(l))
		}
		wantNumber(t, l, n, true)
	}
	wantBytes(t, caps.Ours(70000), []byte{2, 14, 1, 4, 0, 1, 0, 1, 2, 0, 65, 4, 0, 1, 0x11, 0x70}, api.OK)
}

// TestOursIsNewMemory: whatever is done to an answer, the next one is right.
func TestOursIsNewMemory(t *testing.T) {
	l := caps.Ours(1)
	for k := range l {
		_ = append(l[k].Value, 99, 99, 99, 99)
		clear(l[k].Value)
	}
	if again := caps.Ours(1); !slices.EqualFunc(again, oursOf(1), sameCap) {
		t.Error(again)
	}
	if !caps.IPv4(caps.Ours(1)) || caps.IPv4(l) {
		t.Error("what is wanted has changed")
	}
}

func wantNumber(t *testing.T, l []caps.Cap, n api.AS, is bool) {
	t.Helper()
	if gotN, gotIs := caps.Number(l); gotN != n || gotIs != is {
		t.Errorf("Number(%v): %d, %v, want %d, %v", l, gotN, gotIs, n, is)
	}
}

func TestNumber(t *testing.T) {
	for _, n := range numbers {
		wantNumber(t, []caps.Cap{oursOf(n)[2]}, n, true)
	}
	for _, l := range [][]caps.Cap{
		nil, {}, {one(1, 0, 1, 0, 1)}, {one(2)}, {one(64, 0, 0, 0, 1), one(66, 0, 0, 0, 1), one(0, 0, 0, 0, 1)},
		{one(65)}, {one(65, 1)}, {one(65, 0, 1)}, {one(65, 0, 0, 1)}, {one(65, 0, 0, 0, 1, 0)}, {one(65, fill(253)...)},
	} {
		wantNumber(t, l, 0, false)
		wantNumber(t, append(slices.Clone(l), one(65, 0, 0, 0, 7)), 7, true)
		wantNumber(t, append([]caps.Cap{one(65, 0, 0, 0, 7)}, l...), 7, true)
	}
	wantNumber(t, []caps.Cap{one(65, 0, 0, 0, 7), one(65, 0, 0, 0, 8)}, 7, true)
	wantNumber(t, []caps.Cap{one(65, 0, 0, 0, 0), one(65, 0, 0, 0, 8)}, 0, true)
}

func TestRefreshes(t *testing.T) {
	for _, l := range [][]caps.Cap{
		{one(2)}, {{Code: 2, Value: []byte{}}}, {one(2, 0), one(2)}, {one(2), one(2, 0)}, {one(1), one(65), one(2)},
	} {
		if !caps.Refreshes(l) {
			t.Error("no:", l)
		}
	}
	for _, l := range [][]caps.Cap{
		nil, {}, {one(0)}, {one(1)}, {one(3)}, {one(65)}, {one(128)}, {one(2, 0)}, {one(2, 0), one(2, 1, 2)}, {one(1), one(2, 2)},
	} {
		if caps.Refreshes(l) {
			t.Error("yes:", l)
		}
	}
}

func TestIPv4(t *testing.T) {
	for _, l := range [][]caps.Cap{
		nil, {}, {one(2)}, {one(65, 0, 0, 0, 1), one(0), one(129, 1)},
		{one(1, 0, 1, 0, 1)}, {one(2), one(1, 0, 1, 0, 1), one(2)},
		{one(1, 0, 2, 0, 1), one(1, 0, 1, 0, 1)}, {one(1, 0, 1, 0, 1), one(1, 0, 2, 0, 1)}, {one(1), one(1, 0, 1, 0, 1)},
	} {
		if !caps.IPv4(l) {
			t.Error("no:", l)
		}
	}
	for _, l := range [][]caps.Cap{
		{one(1)}, {one(1, 0)}, {one(1, 0, 1)}, {one(1, 0, 1, 0)}, {one(1, 0, 1, 0, 1, 0)}, {one(1, 0, 0, 1, 0, 1)},
		{one(1, 1, 1, 0, 1)}, {one(1, 0, 2, 0, 1)}, {one(1, 0, 1, 1, 1)}, {one(1, 0, 1, 0, 2)}, {one(1, 0, 0, 0, 0)},
		{one(1, 0, 2, 0, 1), one(1, 0, 1, 0, 2)}, {one(1), one(2)}, {one(1, 0, 2, 0, 1), one(65, 0, 1, 0, 1)},
		{one(0, 0, 1, 0, 1), one(1, 0, 2, 0, 1)}, {one(1, 0, 1, 0, 1, 0, 2, 0, 1)},
	} {
		if caps.IPv4(l) {
			t.Error("yes:", l)
		}
	}
}

// TestMoreBehindOurs: P5.5.
func TestMoreBehindOurs(t *testing.T) {
	more := []caps.Cap{
		one(65, 0, 0, 0, 9), one(65), one(65, 1, 2, 3), one(2), one(2, 1), one(1, 0, 2, 0, 1), one(1), one(0), one(70, fill(253)...),
	}
	for _, n := range numbers {
		for k := range more {
			for to := k; to <= len(more); to++ {
				l := append(caps.Ours(n), more[k:to]...)
				wantNumber(t, l, n, true)
				if !caps.Refreshes(l) {
					t.Error("no:", l)
				}
			}
		}
	}
}

// TestQuestionsOnlyRead: what is asked is neither changed nor kept.
func TestQuestionsOnlyRead(t *testing.T) {
	l := append(oursOf(70000), one(1, 9), one(2, 9), one(65, 9))
	want := append(oursOf(70000), one(1, 9), one(2, 9), one(65, 9))
	caps.Number(l)
	caps.Refreshes(l)
	caps.IPv4(l)
	if !slices.EqualFunc(l, want, sameCap) {
		t.Error(l)
	}
}
