package session

import (
	"math"

	"consulate/api"
)

// judged answers e, or the Wrong that it is as.
func (e Event) judged() Event {
	if e.Kind != Message {
		return e
	}
	if e.What < Open || e.What > Refresh {
		return Event{Kind: Wrong, Fault: badType}
	}
	if e.What == Open && !mayHold(e.Hold) {
		return Event{Kind: Wrong, Fault: badHold}
	}
	return e
}

// mayHold tells whether an OPEN may have that hold time.
func mayHold(ticks int64) bool {
	return ticks == 0 || ticks >= 3 && ticks <= math.MaxUint16
}

// brings tells whether e is a message of that type.
func (e Event) brings(message byte) bool { return e.Kind == Message && e.What == message }

// rings tells whether e is of that timer.
func (e Event) rings(timer byte) bool { return e.Kind == Timer && e.What == timer }

// The faults that the machine finds itself.
var (
	badType  = api.Fault{Code: 1, Sub: 3}
	badHold  = api.Fault{Code: 2, Sub: 6}
	expired  = api.Fault{Code: 4, Sub: 0}
	shutdown = api.Fault{Code: 6, Sub: 2}
)

// unexpected is the fault of a message that nobody awaits in that state, which
// is one from OpenSent on.
func unexpected(state int) api.Fault {
	return api.Fault{Code: 5, Sub: byte(state - OpenSent + 1)}
}
