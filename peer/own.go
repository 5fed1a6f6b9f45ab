package peer

import (
	"math"
	"slices"

	"consulate/api"
	"consulate/number"
)

// The last number of two bytes, and the last one of all.
const (
	lastShort = math.MaxUint16
	lastOfAll = math.MaxUint32
)

// maxOthers is how many other members there are at most.
const maxOthers = 16

// multicast is 224.0.0.0: from there on no address is an identifier.
const multicast = 224 << 24

// Told tells whether n may be told (P15.1).
func Told(n api.AS) bool {
	switch number.Kind(n) {
	case number.Zero, number.TransKind:
		return false
	}
	return n != lastShort && n != lastOfAll
}

// May tells whether our side may be (P15.1).
func (o Own) May() bool {
	if !Told(o.Member) || !Told(o.Confed) || o.Id == 0 || o.Id >= multicast {
		return false
	}
	if o.Member == o.Confed {
		return len(o.Others) == 0
	}
	wrong := func(n api.AS) bool { return !Told(n) || n == o.Member || n == o.Confed }
	return len(o.Others) <= maxOthers && rising(o.Others) && !slices.ContainsFunc(o.Others, wrong)
}

// rising tells whether each number is above the one ahead of it.
func rising(l []api.AS) bool {
	for i := 1; i < len(l); i++ {
		if l[i] <= l[i-1] {
			return false
		}
	}
	return true
}

// Class answers the class of a peer of number n (P15.1). A member's number is
// asked ahead of the confederation's: without a confederation both are one.
func (o Own) Class(n api.AS) int {
	switch {
	case !o.May():
		return None
	case n == o.Member:
		return Inside
	case slices.Contains(o.Others, n):
		return Confed
	case n == o.Confed || !Told(n):
		return None
	}
	return Outside
}

// Members answers the numbers of all members, rising (P15.1).
func (o Own) Members() []api.AS {
	l := append([]api.AS{o.Member}, o.Others...)
	slices.Sort(l)
	return l
}
