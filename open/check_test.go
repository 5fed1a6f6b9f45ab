package open_test

import (
	"bytes"
	"math"
	"slices"
	"testing"

	"consulate/api"
	"consulate/caps"
	"consulate/number"
	"consulate/open"
)

// four is the capability that tells n.
func four(n api.AS) caps.Cap {
	return one(65, byte(n>>24), byte(n>>16), byte(n>>8), byte(n))
}

// numbers has the edges of each byte of a number, and of the kinds that matter.
var numbers = []api.AS{
	0, 1, 255, 256, 23455, 23456, 23457, 65001, 65535, 65536, 65537, 70000, 88992, 65536 + 65001, 23456 << 16, 1<<24 - 1,
	1 << 24, 0x01020304, 1 << 31, 4200000000, math.MaxUint32,
}

func TestOurs(t *testing.T) {
	o := open.Ours(70000, 90, ip(10, 0, 0, 1))
	if o.AS != 23456 {
		t.Error("AS", o.AS)
	}
	wantNumber(t, o, 70000, true)
	wantPut(t, o, []byte{4, 0x5b, 0xa0, 0, 90, 10, 0, 0, 1, 16, 2, 14, 1, 4, 0, 1, 0, 1, 2, 0, 65, 4, 0, 1, 0x11, 0x70}, api.OK)

	for _, n := range numbers {
		for _, hold := range []uint16{0, 1, 2, 3, 180, 65535} {
			for _, id := range []api.IP{0, 1, ip(10, 0, 0, 1), math.MaxUint32} {
				want := open.Open{Version: 4, AS: number.Short(n), Hold: hold, Id: id, Caps: caps.Ours(n)}
				o := open.Ours(n, hold, id)
				if !same(o, want) {
					t.Errorf("Ours(%d, %d, %d): %v", n, hold, id, o)
				}
				b, e := open.Put(o)
				if e != api.OK {
					t.Error(e)
				}
				wantGet(t, b, o)
			}
		}
	}
}

func TestOursIsNewMemory(t *testing.T) {
	o := open.Ours(1, 90, 1)
	for _, c := range o.Caps {
		clear(c.Value)
	}
	if again := open.Ours(1, 90, 1); !same(again, open.Open{Version: 4, AS: 1, Hold: 90, Id: 1, Caps: caps.Ours(1)}) {
		t.Error(again)
	}
}

func wantNumber(t *testing.T, o open.Open, n api.AS, is bool) {
	t.Helper()
	if gotN, gotIs := open.Number(o); gotN != n || gotIs != is {
		t.Errorf("Number(%v): %d, %v, want %d, %v", o, gotN, gotIs, n, is)
	}
}

// TestNumberOfTwoBytes: without a capability that tells one, which one of
// another length, or of another code, is not.
func TestNumberOfTwoBytes(t *testing.T) {
	for _, l := range [][]caps.Cap{
		nil, {}, {one(1, 0, 1, 0, 1), one(2)}, {one(65)}, {one(65, 0, 0, 7)}, {one(65, 0, 0, 0, 7, 0)}, {one(64, 0, 0, 0, 7)},
	} {
		for n := range 1 << 16 {
			o := open.Open{Version: 4, AS: uint16(n), Caps: l}
			if n == 0 || n == 23456 {
				wantNumber(t, o, 0, false)
			} else {
				wantNumber(t, o, api.AS(n), true)
			}
		}
	}
}

// TestNumberOfFourBytes: what a capability tells is all that counts, and the
// two bytes must go with it.
func TestNumberOfFourBytes(t *testing.T) {
	for _, n := range numbers {
		for _, two := range numbers {
			if two > 65535 {
				continue
			}
			o := open.Open{AS: uint16(two), Caps: []caps.Cap{four(n)}}
			if n != 0 && (two == n || two == 23456) {
				wantNumber(t, o, n, true)
			} else {
				wantNumber(t, o, 0, false)
			}
		}
	}
	wantNumber(t, open.Open{AS: 65001, Caps: []caps.Cap{four(65001)}}, 65001, true)
	wantNumber(t, open.Open{AS: 65001, Caps: []caps.Cap{four(65002)}}, 0, false)
	wantNumber(t, open.Open{AS: 65001, Caps: []caps.Cap{four(65536 + 65001)}}, 0, false)
	wantNumber(t, open.Open{AS: 65001, Caps: []caps.Cap{four(0)}}, 0, false)
	wantNumber(t, open.Open{AS: 23456, Caps: []caps.Cap{four(0)}}, 0, false)
	wantNumber(t, open.Open{AS: 0, Caps: []caps.Cap{four(0)}}, 0, false)
	wantNumber(t, open.Open{AS: 0, Caps: []caps.Cap{four(7)}}, 0, false)
	wantNumber(t, open.Open{AS: 23456, Caps: []caps.Cap{four(7)}}, 7, true)
	wantNumber(t, open.Open{AS: 23456, Caps: []caps.Cap{four(23456)}}, 23456, true)
}

// TestNumberOfManyCapabilities: the first one that tells a number does, right
// or wrong.
func TestNumberOfManyCapabilities(t *testing.T) {
	for _, c := range []struct {
		two uint16
		l   []caps.Cap
		n   api.AS
		is  bool
	}{
		{7, []caps.Cap{four(7), four(8)}, 7, true},
		{8, []caps.Cap{four(7), four(8)}, 0, false},
		{7, []caps.Cap{four(0), four(7)}, 0, false},
		{23456, []caps.Cap{four(70000), four(80000)}, 70000, true},
		{7, []caps.Cap{one(65, 1), one(2), four(7)}, 7, true},
		{7, []caps.Cap{one(65, 0, 0, 8), four(9)}, 0, false},
	} {
		wantNumber(t, open.Open{AS: c.two, Caps: c.l}, c.n, c.is)
	}
}

func wantCheck(t *testing.T, o open.Open, w open.Wants, sub byte) {
	t.Helper()
	want, wantData := api.Fault{Code: 2, Sub: sub}, []byte(nil)
	switch sub {
	case 0:
		want = api.Fault{}
	case 7:
		wantData = []byte{1, 4, 0, 1, 0, 1}
	}
	if f, data := open.Check(o, w); f != want || !bytes.Equal(data, wantData) {
		t.Errorf("Check(%v, %v): %v, % x, want %v, % x", o, w, f, data, want, wantData)
	}
}

func wants(n api.AS) open.Wants { return open.Wants{AS: n, Own: ip(10, 0, 0, 2)} }

func TestCheckNumber(t *testing.T) {
	for _, n := range numbers {
		for _, wanted := range numbers {
			o := open.Ours(n, 90, ip(10, 0, 0, 1))
			if n == wanted && n != 0 {
				wantCheck(t, o, wants(wanted), 0)
			} else {
				wantCheck(t, o, wants(wanted), 2)
			}
		}
	}
	// who has no number is not even the one whose number is the two bytes', or 0
	none := open.Open{Version: 4, AS: 23456, Hold: 90, Id: 1}
	for _, n := range []api.AS{0, 23456, 70000} {
		wantCheck(t, none, wants(n), 2)
	}
	none.AS = 0
	wantCheck(t, none, wants(0), 2)
	none.AS, none.Caps = 65001, []caps.Cap{four(70000)}
	for _, n := range []api.AS{0, 65001, 70000} {
		wantCheck(t, none, wants(n), 2)
	}
	// who tells two bytes alone is wanted by these
	wantCheck(t, headOpen(), wants(65001), 0)
	wantCheck(t, headOpen(), wants(65002), 2)
	wantCheck(t, headOpen(), wants(65536+65001), 2)
}

func TestCheckId(t *testing.T) {
	for id, sub := range map[api.IP]byte{
		0: 3, 1: 0, ip(0, 0, 1, 0): 0, ip(10, 0, 0, 1): 0, ip(127, 0, 0, 1): 0, ip(128, 0, 0, 0): 0, ip(223, 255, 255, 255): 0,
		ip(224, 0, 0, 0): 3, ip(224, 0, 0, 1): 3, ip(239, 255, 255, 255): 3, ip(240, 0, 0, 0): 3, ip(255, 255, 255, 255): 3,
	} {
		o := open.Ours(65001, 90, id)
		for _, inside := range []bool{false, true} {
			wantCheck(t, o, open.Wants{AS: 65001, Own: 99, Inside: inside}, sub)
			wantCheck(t, o, open.Wants{AS: 65001, Own: id + 1, Inside: inside}, sub)
		}
		wantCheck(t, o, open.Wants{AS: 65001, Own: id}, sub)
		wantCheck(t, o, open.Wants{AS: 65001, Own: id, Inside: true}, 3)
	}
}

func TestCheckHold(t *testing.T) {
	for hold := range 1 << 16 {
		o := open.Ours(65001, uint16(hold), ip(10, 0, 0, 1))
		if hold == 1 || hold == 2 {
			wantCheck(t, o, wants(65001), 6)
		} else {
			wantCheck(t, o, wants(65001), 0)
		}
	}
}

func TestCheckFamily(t *testing.T) {
	for _, l := range [][]caps.Cap{
		nil, {one(2)}, {one(1, 0, 1, 0, 1)}, {one(1, 0, 2, 0, 1), one(1, 0, 1, 0, 1)}, {four(65001)},
	} {
		wantCheck(t, headOpen(l...), wants(65001), 0)
	}
	for _, l := range [][]caps.Cap{
		{one(1)}, {one(1, 0, 2, 0, 1)}, {one(1, 0, 1, 0, 2)}, {one(2), one(1, 0, 1, 0), four(65001)},
	} {
		wantCheck(t, headOpen(l...), wants(65001), 7)
	}
}

// TestCheckDoesNotAskTheVersion: Get does that.
func TestCheckDoesNotAskTheVersion(t *testing.T) {
	for v := range 256 {
		o := open.Ours(65001, 90, ip(10, 0, 0, 1))
		o.Version = byte(v)
		wantCheck(t, o, wants(65001), 0)
	}
}

// TestCheckTellsTheFirstFault: of each set of what may be wrong.
func TestCheckTellsTheFirstFault(t *testing.T) {
	spoil := []struct {
		sub byte
		how func(o *open.Open)
	}{
		{2, func(o *open.Open) { o.AS++ }},
		{3, func(o *open.Open) { o.Id = ip(10, 0, 0, 2) }},
		{6, func(o *open.Open) { o.Hold = 2 }},
		{7, func(o *open.Open) { o.Caps[0].Value[3] = 2 }},
	}
	for set := range 1 << len(spoil) {
		o, sub := open.Ours(65001, 90, ip(10, 0, 0, 1)), byte(0)
		for k, s := range slices.Backward(spoil) {
			if set>>k&1 == 1 {
				s.how(&o)
				sub = s.sub
			}
		}
		wantCheck(t, o, open.Wants{AS: 65001, Own: ip(10, 0, 0, 2), Inside: true}, sub)
	}
	wantCheck(t, open.Open{Hold: 1, Caps: []caps.Cap{one(1)}}, open.Wants{}, 2)
	wantCheck(t, open.Open{Hold: 1, AS: 5, Caps: []caps.Cap{one(1)}}, open.Wants{AS: 5}, 3)
	wantCheck(t, open.Open{Hold: 1, AS: 5, Id: 1, Caps: []caps.Cap{one(1)}}, open.Wants{AS: 5}, 6)
	wantCheck(t, open.Open{AS: 5, Id: 1, Caps: []caps.Cap{one(1)}}, open.Wants{AS: 5}, 7)
}

// TestQuestionsOnlyRead: what is asked is not changed, and each answer's data
// is new memory.
func TestQuestionsOnlyRead(t *testing.T) {
	o := headOpen(one(1, 0, 2, 0, 1), one(9, 9))
	open.Number(o)
	_, data := open.Check(o, wants(65001))
	clear(data)
	wantCheck(t, o, wants(65001), 7)
	wantPut(t, o, head(11, 2, 9, 1, 4, 0, 2, 0, 1, 9, 1, 9), api.OK)
}

// TestOursIsChecked: P6.4, by each who wants it, also behind the way there.
func TestOursIsChecked(t *testing.T) {
	id := ip(10, 0, 0, 1)
	for _, n := range numbers {
		if n == 0 || n == number.Trans {
			continue
		}
		for _, hold := range []uint16{0, 3, 90, 65535} {
			o := open.Ours(n, hold, id)
			wantNumber(t, o, n, true)
			b, _ := open.Put(o)
			got, _, _ := open.Get(b)
			wantNumber(t, got, n, true)
			for _, own := range []api.IP{0, 1, id - 1, id + 1, math.MaxUint32} {
				for _, inside := range []bool{false, true} {
					wantCheck(t, o, open.Wants{AS: n, Own: own, Inside: inside}, 0)
					wantCheck(t, got, open.Wants{AS: n, Own: own, Inside: inside}, 0)
				}
			}
			wantCheck(t, o, open.Wants{AS: n, Own: id}, 0)
		}
	}
}
