package clash_test

import (
	"math"
	"testing"

	"consulate/api"
	"consulate/clash"
)

// All of them are constants without a type.
var _ = [4]byte{clash.Both, clash.Old, clash.New, clash.None}

func TestConstants(t *testing.T) {
	if got := [4]int{clash.Both, clash.Old, clash.New, clash.None}; got != [4]int{0, 1, 2, 3} {
		t.Error(got)
	}
}

// The states, as the chapter numbers them.
const (
	idle = 1 + iota
	connect
	active
	openSent
	openConfirm
	established
)

// rising has sides, each higher than all ahead of it: by identifiers first,
// also where the numbers fall; by numbers of one identifier; and beyond what
// numbers with a sign have.
func rising() []clash.Side {
	return []clash.Side{
		{Id: 0, Number: 0}, {Id: 0, Number: 1}, {Id: 0, Number: math.MaxUint32},
		{Id: 1, Number: 0}, {Id: 1, Number: 2}, {Id: 1, Number: 1<<31 - 1}, {Id: 1, Number: 1 << 31}, {Id: 1, Number: math.MaxUint32},
		{Id: 2, Number: 1}, {Id: 5, Number: 65002}, {Id: 9, Number: 65001},
		{Id: 0x0A000001, Number: 65535}, {Id: 0x0A000001, Number: 65536}, {Id: 0x0A000100, Number: 1},
		{Id: 1<<31 - 1, Number: 7}, {Id: 1 << 31, Number: 6}, {Id: 1<<31 + 1, Number: 5},
		{Id: 0xDFFFFFFF, Number: 4}, {Id: math.MaxUint32, Number: 0}, {Id: math.MaxUint32, Number: 1},
		{Id: math.MaxUint32, Number: math.MaxUint32 - 1}, {Id: math.MaxUint32, Number: math.MaxUint32},
	}
}

// sign is 1, 0 or -1, as n is above 0, 0, or below it.
func sign(n int) int {
	switch {
	case n > 0:
		return 1
	case n < 0:
		return -1
	}
	return 0
}

func TestCompare(t *testing.T) {
	l := rising()
	for i, a := range l {
		for k, b := range l {
			if got := sign(clash.Compare(a, b)); got != sign(i-k) {
				t.Errorf("Compare(%v, %v): %d, want %d", a, b, got, sign(i-k))
			}
		}
	}
}

// TestCompareSmall holds Compare against the chapter's words, for all small
// sides.
func TestCompareSmall(t *testing.T) {
	isHigher := func(a, b clash.Side) bool { return a.Id > b.Id || a.Id == b.Id && a.Number > b.Number }
	for k := range 4 * 4 * 4 * 4 {
		a := clash.Side{Id: api.IP(k % 4), Number: api.AS(k / 4 % 4)}
		b := clash.Side{Id: api.IP(k / 16 % 4), Number: api.AS(k / 64)}
		got := clash.Compare(a, b)
		if (got > 0) != isHigher(a, b) || (got < 0) != isHigher(b, a) {
			t.Errorf("Compare(%v, %v): %d", a, b, got)
		}
	}
}

func wantJudged(t *testing.T, us, them clash.Side, old, new clash.Conn, want int) {
	t.Helper()
	if got := clash.Judge(us, them, old, new); got != want {
		t.Errorf("Judge(%v, %v, %v, %v): %d, want %d", us, them, old, new, got, want)
	}
}

func TestExamples(t *testing.T) {
	five, nine := clash.Side{Id: 5, Number: 65001}, clash.Side{Id: 9, Number: 65002}
	theirs := clash.Conn{State: openSent}
	wantJudged(t, nine, five, clash.Conn{Ours: true, State: openSent}, theirs, clash.Old)
	wantJudged(t, five, nine, clash.Conn{Ours: true, State: openSent}, theirs, clash.New)
	wantJudged(t, five, nine, clash.Conn{Ours: true, State: established}, theirs, clash.Old)
}

// openers are who opened the old one, and the new one.
var openers = [][2]bool{{true, true}, {true, false}, {false, true}, {false, false}}

// pairs has sides of which the first one is higher, neither is, or the other
// one is, by identifiers and by numbers.
func pairs() (first, neither, other [][2]clash.Side) {
	l := rising()
	for i, a := range l {
		neither = append(neither, [2]clash.Side{a, a})
		for _, b := range l[:i] {
			first = append(first, [2]clash.Side{a, b})
			other = append(other, [2]clash.Side{b, a})
		}
	}
	return first, neither, other
}

// wantAll judges old ones in that state, whoever opened both, for all those
// pairs and all states of the new one: want has what is judged by openers.
func wantAll(t *testing.T, pairs [][2]clash.Side, state int, want [4]int) {
	t.Helper()
	for _, p := range pairs {
		for at, ours := range openers {
			for _, fresh := range []int{math.MinInt, -1, 0, idle, connect, active, openSent, openConfirm, established, 7, math.MaxInt} {
				old, new := clash.Conn{Ours: ours[0], State: state}, clash.Conn{Ours: ours[1], State: fresh}
				wantJudged(t, p[0], p[1], old, new, want[at])
			}
		}
	}
}

func TestNoClashYet(t *testing.T) {
	first, neither, other := pairs()
	both := [4]int{clash.Both, clash.Both, clash.Both, clash.Both}
	for _, state := range []int{idle, connect, active} {
		wantAll(t, first, state, both)
		wantAll(t, neither, state, both)
		wantAll(t, other, state, both)
	}
}

// TestStatesThatAreNone: they count as Idle, on both sides of the six, and
// where fewer bits would make one of the six of them.
func TestStatesThatAreNone(t *testing.T) {
	first, neither, other := pairs()
	both := [4]int{clash.Both, clash.Both, clash.Both, clash.Both}
	for _, state := range []int{math.MinInt, math.MinInt32, -6, -5, -4, -1, 0, 7, 8, 9, 256 + openSent, 256 + established, 1<<32 + openSent, 1<<32 + established, math.MaxInt} {
		wantAll(t, first, state, both)
		wantAll(t, neither, state, both)
		wantAll(t, other, state, both)
	}
}

func TestEstablishedStays(t *testing.T) {
	first, neither, other := pairs()
	old := [4]int{clash.Old, clash.Old, clash.Old, clash.Old}
	wantAll(t, first, established, old)
	wantAll(t, neither, established, old)
	wantAll(t, other, established, old)
}

func TestClash(t *testing.T) {
	first, neither, other := pairs()
	for _, state := range []int{openSent, openConfirm} {
		wantAll(t, first, state, [4]int{clash.Old, clash.Old, clash.New, clash.Old})
		wantAll(t, neither, state, [4]int{clash.Old, clash.None, clash.None, clash.Old})
		wantAll(t, other, state, [4]int{clash.Old, clash.New, clash.Old, clash.Old})
	}
}
