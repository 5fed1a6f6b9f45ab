package session

import (
	"slices"

	"consulate/api"
)

// The times, in ticks, that are not agreed on.
const (
	retryTime = 120
	longHold  = 240
)

func send(message byte) Action { return Action{Do: Send, What: message} }

func set(timer byte, ticks int64) Action { return Action{Do: Set, What: timer, Ticks: ticks} }

func unset(timer byte) Action { return Action{Do: Unset, What: timer} }

// dials asks for a connection, and for another one later, if that fails.
func (m Machine) dials() (Machine, []Action) {
	m.State = Connect
	return m, []Action{set(Retry, retryTime), {Do: Dial}}
}

// agrees keeps the hold time that was agreed on.
func (m Machine) agrees(hold int64) (Machine, []Action) {
	m.State, m.Hold = OpenConfirm, hold
	if hold == 0 {
		return m, []Action{send(Keepalive), unset(Hold)}
	}
	return m, []Action{send(Keepalive), set(Hold, hold), m.keep()}
}

// keep is when the next Keepalive is due.
func (m Machine) keep() Action { return set(Keep, m.Hold/3) }

// hears begins the hold time anew, if there is one, and then does what else is
// to be done.
func (m Machine) hears(also ...Action) (Machine, []Action) {
	if m.Hold == 0 {
		return m, also
	}
	return m, append([]Action{set(Hold, m.Hold)}, also...)
}

// keeps tells that we are still there, if that was agreed on.
func (m Machine) keeps() (Machine, []Action) {
	if m.Hold <= 0 {
		return m, nil
	}
	return m, []Action{send(Keepalive), m.keep()}
}

// halts ends the session, with a fault or without one, for good.
func (m Machine) halts(f api.Fault, data []byte) (Machine, []Action) {
	var l []Action
	if f != (api.Fault{}) {
		l = append(l, Action{Do: Tell, Fault: f, Data: slices.Clone(data)})
	}
	l = append(l, Action{Do: Close}, unset(Retry), unset(Hold), unset(Keep))
	if m.State == Established {
		l = append(l, Action{Do: Down})
	}
	return New(), l
}

// ends ends the session as halts does, but it is tried again later.
func (m Machine) ends(f api.Fault, data []byte) (Machine, []Action) {
	m, l := m.halts(f, data)
	return m, append(l, set(Retry, retryTime))
}
