package session_test

import (
	"testing"

	"consulate/session"
)

// How far a session came, since the last Close.
const (
	apart = iota
	connected
	opened
	heard
)

// watch is a machine, and what has to be known of its past to judge it.
type watch struct {
	m     session.Machine
	stage int
	up    bool
	runs  [4]bool
}

// comes notes what the event alone tells.
func (w *watch) comes(e session.Event) {
	seeks := w.m.State == session.Connect || w.m.State == session.Active
	switch {
	case e.Kind == session.Connected && seeks:
		w.stage = connected
	case e.Kind == session.Message && e.What == session.Open && w.stage == connected:
		w.stage = opened
	case e.Kind == session.Message && e.What == session.Keepalive && w.stage == opened:
		w.stage = heard
	case e.Kind == session.Timer && e.What >= session.Retry && e.What <= session.Keep:
		w.runs[e.What] = false
	}
}

// does notes an action, and tells what is wrong with it.
func (w *watch) does(a session.Action) string {
	switch a.Do {
	case session.Send, session.Tell:
		if w.stage == apart {
			return "is told without a connection"
		}
	case session.Close:
		w.stage = apart
	case session.Up:
		if w.stage != heard || w.up {
			return "comes too early, or again"
		}
		w.up = true
	case session.Down:
		if !w.up {
			return "was not up"
		}
		w.up = false
	case session.Set, session.Unset:
		w.runs[a.What] = a.Do == session.Set
		if a.Do == session.Set && a.Ticks < 1 {
			return "is due at once"
		}
	case session.Dial:
		if w.stage != apart {
			return "is asked for on a connection"
		}
	case session.Hand:
		if !w.up {
			return "is handed up by one that is not up"
		}
	}
	return ""
}

// wrong tells what is wrong with what it is then.
func (w *watch) wrong() string {
	speaks := w.m.State >= session.OpenSent
	agreed := w.m.State >= session.OpenConfirm
	switch {
	case w.up != (w.m.State == session.Established):
		return "is up, or Established, but not both"
	case speaks != (w.stage != apart):
		return "has a connection, or speaks, but not both"
	case !agreed && w.m.Hold != 0:
		return "has a hold time that nobody agreed on"
	case !speaks && (w.runs[session.Hold] || w.runs[session.Keep]):
		return "has more timers than Retry"
	case speaks && w.runs[session.Retry]:
		return "has a Retry on a connection"
	case speaks && w.runs[session.Hold] != (!agreed || w.m.Hold != 0):
		return "has a Hold without a hold time, or the other way about"
	case w.runs[session.Keep] && (!agreed || w.m.Hold == 0):
		return "has a Keep that nobody agreed on"
	}
	return ""
}

// step is one event more. It tells what is wrong with what comes of it.
func (w watch) step(e session.Event) (watch, []session.Action, string) {
	w.comes(e)
	m, l := w.m.Do(e)
	for i, a := range l {
		if a.Do == session.Tell && (i+1 == len(l) || l[i+1].Do != session.Close) {
			return w, l, "a Notification, and no Close behind it"
		}
		if a.Do == session.Tell && e.Kind == session.Message && e.What == session.Notification {
			return w, l, "a Notification of a Notification"
		}
		if wrong := w.does(a); wrong != "" {
			return w, l, wrong
		}
	}
	w.m = m
	return w, l, w.wrong()
}

// TestWhateverComes is P14.2 to P14.4: all that comes of any row of events,
// however long.
func TestWhateverComes(t *testing.T) {
	first := watch{m: session.New()}
	ways := map[watch]string{first: ""}
	at := map[int]bool{}
	for work := []watch{first}; len(work) > 0; work = work[1:] {
		at[work[0].m.State] = true
		for name, e := range events() {
			way := ways[work[0]] + ", " + name
			next, l, wrong := work[0].step(e)
			if wrong != "" {
				t.Fatalf("%s: %v, %v %s", way, next.m, l, wrong)
			}
			if _, known := ways[next]; !known {
				ways[next] = way
				work = append(work, next)
			}
		}
	}
	if len(at) != 6 {
		t.Error("not all states came about:", at)
	}
}

// TestUpAndDownAgain: of one machine, again and again, with another hold time.
func TestUpAndDownAgain(t *testing.T) {
	w := watch{m: session.New()}
	ends := []session.Event{
		{Kind: session.Failed},
		timer(session.Hold),
		message(session.Notification, 0),
		message(session.Open, 90),
		faulty(session.Wrong, 3, 1),
		{Kind: session.Halt},
		faulty(session.Cease, 6, 4),
	}
	for many := range 200 {
		for _, e := range []session.Event{
			{Kind: session.Start}, {Kind: session.Failed}, {Kind: session.Connected}, message(session.Open, int64(many+3)), message(session.Keepalive, 0),
			message(session.Update, 0), timer(session.Keep), ends[many%len(ends)],
		} {
			var wrong string
			if w, _, wrong = w.step(e); wrong != "" {
				t.Fatalf("%d, %v: %v %s", many, e, w.m, wrong)
			}
			if e.Kind == session.Timer && e.What == session.Keep && w.m != (session.Machine{State: session.Established, Hold: int64(many + 3)}) {
				t.Fatalf("%d: it is not up: %v", many, w.m)
			}
		}
		if w.m != session.New() {
			t.Fatalf("%d: it has not ended: %v", many, w.m)
		}
	}
}
