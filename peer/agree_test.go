package peer_test

import (
	"math"
	"slices"
	"testing"

	"consulate/api"
	"consulate/caps"
	"consulate/peer"
)

func wantAgreed(t *testing.T, ours, theirs int64, field uint16, l []caps.Cap, want peer.Agreed) {
	t.Helper()
	if got := peer.Agree(ours, theirs, field, l); got != want {
		t.Errorf("Agree(%d, %d, %d, %v): %v, want %v", ours, theirs, field, l, got, want)
	}
}

func TestAgreeOnTimes(t *testing.T) {
	for _, c := range [][4]int64{
		{90, 90, 90, 30}, {90, 9, 9, 3}, {9, 90, 9, 3}, {90, 10, 10, 3}, {11, 90, 11, 3}, {12, 12, 12, 4},
		{3, 3, 3, 1}, {2, 3, 2, 1}, {3, 1, 1, 1}, {4, 5, 4, 1}, {5, 5, 5, 1}, {6, 5, 5, 1}, {6, 6, 6, 2},
		{0, 90, 0, 0}, {90, 0, 0, 0}, {0, 0, 0, 0}, {-1, 90, 0, 0}, {90, -1, 0, 0}, {-7, -9, 0, 0},
		{math.MinInt64, math.MaxInt64, 0, 0}, {65535, 65534, 65534, 21844},
		{api.MaxTicks, api.MaxTicks, api.MaxTicks, api.MaxTicks / 3},
	} {
		wantAgreed(t, c[0], c[1], 7, nil, peer.Agreed{Hold: c[2], Keep: c[3], Number: 7})
	}
}

// four is the capability that tells n.
func four(n api.AS) caps.Cap { return caps.Ours(n)[2] }

func TestAgreeOnCapabilities(t *testing.T) {
	refresh := caps.Cap{Code: caps.Refresh}
	for _, c := range []struct {
		field   uint16
		l       []caps.Cap
		four    bool
		refresh bool
		number  api.AS
	}{
		{field: 200, number: 200},
		{field: 0, number: 0},
		{field: 23456, number: 23456},
		{field: 65535, number: 65535},
		{field: 200, l: []caps.Cap{}, number: 200},
		{field: 200, l: []caps.Cap{refresh}, refresh: true, number: 200},
		{field: 200, l: []caps.Cap{four(300)}, four: true, number: 300},
		{field: 23456, l: []caps.Cap{four(70000)}, four: true, number: 70000},
		{field: 200, l: []caps.Cap{four(0)}, four: true, number: 0},
		{field: 200, l: []caps.Cap{four(23456)}, four: true, number: 23456},
		{field: 200, l: []caps.Cap{four(math.MaxUint32)}, four: true, number: math.MaxUint32},
		{field: 200, l: []caps.Cap{four(7), four(8)}, four: true, number: 7},
		{field: 200, l: []caps.Cap{{Code: 7}, refresh, four(8)}, four: true, refresh: true, number: 8},
		{field: 200, l: caps.Ours(70000), four: true, refresh: true, number: 70000},
		// of another form than is wanted
		{field: 200, l: []caps.Cap{{Code: caps.Four}}, number: 200},
		{field: 200, l: []caps.Cap{{Code: caps.Four, Value: []byte{0, 7}}}, number: 200},
		{field: 200, l: []caps.Cap{{Code: caps.Four, Value: []byte{0, 0, 0, 0, 7}}, four(8)}, four: true, number: 8},
		{field: 200, l: []caps.Cap{{Code: caps.Refresh, Value: []byte{0}}}, number: 200},
		{field: 200, l: []caps.Cap{{Code: caps.Refresh, Value: []byte{0}}, refresh}, refresh: true, number: 200},
		{field: 200, l: []caps.Cap{{Code: 66, Value: []byte{0, 0, 0, 7}}, {Code: 70}}, number: 200},
		// without IPv4's families, too
		{field: 200, l: []caps.Cap{{Code: caps.Family, Value: []byte{0, 2, 0, 1}}}, number: 200},
	} {
		want := peer.Agreed{Hold: 60, Keep: 20, Four: c.four, Refresh: c.refresh, Number: c.number}
		wantAgreed(t, 90, 60, c.field, c.l, want)
	}
}

func TestCapabilitiesAreOnlyRead(t *testing.T) {
	l := append(caps.Ours(70000), caps.Cap{Code: caps.Four, Value: []byte{1, 2, 3, 4}}, caps.Cap{Code: 9, Value: []byte{9}})
	was := append(caps.Ours(70000), caps.Cap{Code: caps.Four, Value: []byte{1, 2, 3, 4}}, caps.Cap{Code: 9, Value: []byte{9}})
	peer.Agree(90, 60, 1, l)
	wantCaps(t, "what was handed in", l, was)
}

// TestBothSidesAgree: P15.4.
func TestBothSidesAgree(t *testing.T) {
	times := []int64{-1, 0, 1, 2, 3, 4, 9, 10, 90, 240, 65535, api.MaxTicks}
	for _, one := range times {
		for _, other := range times {
			a := peer.Agree(one, other, 100, caps.Ours(100))
			b := peer.Agree(other, one, 200, nil)
			if a.Hold != b.Hold || a.Keep != b.Keep {
				t.Errorf("%d and %d: %v, %v", one, other, a, b)
			}
		}
	}
}

// confederation is the sides of all its members, of that number.
func confederation(number api.AS, members ...api.AS) []peer.Own {
	var l []peer.Own
	for at, n := range members {
		others := slices.Delete(slices.Clone(members), at, at+1)
		slices.Sort(others)
		l = append(l, peer.Own{Member: n, Confed: number, Others: others, Id: api.IP(at + 1)})
	}
	return l
}

// confederations has some of different numbers, the last ones of one alone.
func confederations() [][]peer.Own {
	return [][]peer.Own{
		confederation(100, 65001, 65002, 65003),
		confederation(200, 4200000000, 64512, 70000, 1),
		confederation(80000, 23455, 23457),
		confederation(300, 65534),
		confederation(4294967294, 65536, 400),
		confederation(500, 500),
		confederation(90000, 90000),
	}
}

// TestOneClass: P15.3.
func TestOneClass(t *testing.T) {
	for _, o := range slices.Concat(confederations()...) {
		for _, n := range slices.Concat(tellable, []api.AS{o.Member}, o.Others) {
			class := o.Class(n)
			if n != o.Confed && class != peer.Inside && class != peer.Confed && class != peer.Outside {
				t.Errorf("Class(%d) of %v: %d", n, o, class)
			}
			if member := slices.Contains(o.Members(), n); member != (class == peer.Inside || class == peer.Confed) {
				t.Errorf("Class(%d) of %v: %d, a member: %v", n, o, class, member)
			}
		}
	}
}

// TestMembersOfOneConfederation: P15.3. What they tell each other they take
// each other for.
func TestMembersOfOneConfederation(t *testing.T) {
	for _, l := range confederations() {
		for _, a := range l {
			for _, b := range l {
				want := peer.Confed
				if a.Member == b.Member {
					want = peer.Inside
				}
				wantClass(t, a, b.Member, want)
				wantClass(t, a, told(b, want), want)
				if !slices.Equal(a.Members(), b.Members()) {
					t.Error(a, b, "have not the same members")
				}
			}
		}
	}
}

// TestTwoConfederations: P15.3. Who belongs to another one is Outside, by the
// number that it tells.
func TestTwoConfederations(t *testing.T) {
	all := confederations()
	for i, ours := range all {
		for k, theirs := range all {
			if i == k {
				continue
			}
			for _, a := range ours {
				for _, b := range theirs {
					wantClass(t, a, b.Confed, peer.Outside)
					wantClass(t, a, told(b, peer.Outside), peer.Outside)
				}
			}
		}
	}
}

// told is the number that is agreed on with o, which tells it to a peer of
// that class: by way of its capabilities, and of its two bytes.
func told(o peer.Own, class int) api.AS {
	return peer.Agree(90, 90, 23456, o.Caps(class)).Number
}
