package open

import (
	"consulate/api"
	"consulate/caps"
)

// wrongOpen is the code of all that is wrong with an OPEN.
const wrongOpen = 2

// The subcodes that are told here.
const (
	malformed    = 0
	badVersion   = 1
	badNumber    = 2
	badId        = 3
	badHold      = 6
	noCapability = 7
)

// noHost is the least address that no host has: from here on they are of
// groups, or reserved.
const noHost api.IP = 224 << 24

// Wants is what is wanted of an OPEN.
type Wants struct {
	AS     api.AS
	Own    api.IP
	Inside bool
}

// Check answers the first fault that o has for who wants w, and its data
// (P6.2).
func Check(o Open, w Wants) (api.Fault, []byte) {
	checks := [...]func() (byte, bool){
		func() (byte, bool) { return badNumber, !has(o, w.AS) },
		func() (byte, bool) { return badId, o.Id == 0 || o.Id >= noHost || w.Inside && o.Id == w.Own },
		func() (byte, bool) { return badHold, o.Hold == 1 || o.Hold == 2 },
		func() (byte, bool) { return noCapability, !caps.IPv4(o.Caps) },
	}
	for _, check := range checks {
		if sub, wrong := check(); wrong {
			return fault(sub), data(sub)
		}
	}
	return api.Fault{}, nil
}

// has tells whether n is o's own number. Without one it has not even 0.
func has(o Open, n api.AS) bool {
	own, ok := Number(o)
	return ok && own == n
}

// fault answers the fault of that subcode.
func fault(sub byte) api.Fault { return api.Fault{Code: wrongOpen, Sub: sub} }

// data answers what goes with a subcode: what would have been right, where that
// can be told.
func data(sub byte) []byte {
	switch sub {
	case badVersion:
		return []byte{0, version}
	case noCapability:
		return []byte{caps.Family, 4, 0, 1, 0, 1}
	}
	return nil
}
