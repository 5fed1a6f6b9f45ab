package session

import "consulate/api"

// idle is what Idle does.
func (m Machine) idle(e Event) (Machine, []Action) {
	switch {
	case e.Kind == Start, e.rings(Retry):
		return m.dials()
	case e.Kind == Halt:
		return m, []Action{unset(Retry)}
	}
	return m, nil
}

// seeking is what Connect and Active do.
func (m Machine) seeking(e Event) (Machine, []Action) {
	switch {
	case e.Kind == Halt:
		return m.halts(api.Fault{}, nil)
	case e.Kind == Connected:
		m.State = OpenSent
		return m, []Action{unset(Retry), send(Open), set(Hold, longHold)}
	case e.Kind == Failed:
		m.State = Active
		return m, []Action{set(Retry, retryTime)}
	case e.rings(Retry):
		return m.dials()
	}
	return m, nil
}

// openSent is what OpenSent does.
func (m Machine) openSent(e Event) (Machine, []Action) {
	switch {
	case e.brings(Open):
		return m.agrees(e.Hold)
	case e.Kind == Failed:
		m.State = Active
		return m, []Action{{Do: Close}, unset(Hold), set(Retry, retryTime)}
	}
	return m.connected(e)
}

// openConfirm is what OpenConfirm does.
func (m Machine) openConfirm(e Event) (Machine, []Action) {
	if e.brings(Keepalive) {
		m.State = Established
		return m.hears(Action{Do: Up})
	}
	return m.agreed(e)
}

// established is what Established does.
func (m Machine) established(e Event) (Machine, []Action) {
	switch {
	case e.brings(Keepalive):
		return m.hears()
	case e.brings(Update):
		return m.hears(Action{Do: Hand})
	case e.brings(Refresh):
		return m, []Action{{Do: Hand}}
	}
	return m.agreed(e)
}

// agreed is what OpenConfirm and Established do alike.
func (m Machine) agreed(e Event) (Machine, []Action) {
	switch {
	case e.Kind == Failed:
		return m.ends(api.Fault{}, nil)
	case e.rings(Keep):
		return m.keeps()
	}
	return m.connected(e)
}

// connected is what all three do alike that have a connection. Any message
// that comes as far as here, but a Notification, is one that nobody awaits.
func (m Machine) connected(e Event) (Machine, []Action) {
	switch {
	case e.Kind == Halt:
		return m.halts(shutdown, nil)
	case e.Kind == Wrong, e.Kind == Cease:
		return m.ends(e.Fault, e.Data)
	case e.rings(Hold):
		return m.ends(expired, nil)
	case e.brings(Notification):
		return m.ends(api.Fault{}, nil)
	case e.Kind == Message:
		return m.ends(unexpected(m.State), nil)
	}
	return m, nil
}
