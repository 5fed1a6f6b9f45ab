package clash_test

import (
	"testing"

	"consulate/clash"
)

// What stays of two connections, told without saying which is the old one.
const (
	all = iota
	firsts
	seconds
	neither
)

// stays is what a side judges of two connections that it has in those states,
// the first one opened by the first side. isFirst: that side judges; firstOld:
// it has the first one as the old one.
func stays(first, second clash.Side, states [2]int, isFirst, firstOld bool) int {
	us, them := first, second
	if !isFirst {
		us, them = them, us
	}
	a, b := clash.Conn{Ours: isFirst, State: states[0]}, clash.Conn{Ours: !isFirst, State: states[1]}
	old, new, named := a, b, [4]int{clash.Both: all, clash.Old: firsts, clash.New: seconds, clash.None: neither}
	if !firstOld {
		old, new, named = b, a, [4]int{clash.Both: all, clash.Old: seconds, clash.New: firsts, clash.None: neither}
	}
	return named[clash.Judge(us, them, old, new)]
}

// eachStates goes through all pairs of states, wrong ones too.
func eachStates(yield func([2]int) bool) {
	for a := range 9 {
		for b := range 9 {
			if !yield([2]int{a - 1, b - 1}) {
				return
			}
		}
	}
}

// TestBothSidesAgree: P16.2.
func TestBothSidesAgree(t *testing.T) {
	for _, first := range rising() {
		for _, second := range rising() {
			for states := range eachStates {
				for _, firstOld := range []bool{true, false} {
					a, b := stays(first, second, states, true, firstOld), stays(first, second, states, false, firstOld)
					if a != b {
						t.Errorf("%v and %v, in %v, the first one is the old one: %v: %d and %d", first, second, states, firstOld, a, b)
					}
				}
			}
		}
	}
}

// TestWhicheverIsOld: P16.3, while there is a clash with either of them; each
// side may have another one as the old one, too.
func TestWhicheverIsOld(t *testing.T) {
	for i, first := range rising() {
		for k, second := range rising() {
			want := [3]int{seconds, neither, firsts}[1+sign(i-k)]
			for _, states := range [][2]int{{openSent, openSent}, {openSent, openConfirm}, {openConfirm, openSent}, {openConfirm, openConfirm}} {
				for at := range 4 {
					isFirst, firstOld := at%2 == 0, at/2 == 0
					if got := stays(first, second, states, isFirst, firstOld); got != want {
						t.Errorf("%v and %v, in %v, %v, %v: %d, want %d", first, second, states, isFirst, firstOld, got, want)
					}
				}
			}
		}
	}
}

// TestEstablishedStaysAsItIs: the old one, if it is Established, though the
// other one's side is higher, and both sides know it.
func TestEstablishedStaysAsItIs(t *testing.T) {
	for _, first := range rising() {
		for _, second := range rising() {
			for _, isFirst := range []bool{true, false} {
				if stays(first, second, [2]int{established, openSent}, isFirst, true) != firsts {
					t.Error(first, second, isFirst, "the first one, Established, does not stay")
				}
				if stays(first, second, [2]int{openSent, established}, isFirst, false) != seconds {
					t.Error(first, second, isFirst, "the second one, Established, does not stay")
				}
			}
		}
	}
}
