package session_test

import (
	"bytes"
	"math"
	"slices"
	"strconv"
	"testing"

	"consulate/api"
	"consulate/session"
)

// text is a number's digits.
func text(n int64) string { return strconv.FormatInt(n, 10) }

// TestOpenOfEachHold: the hold time that was agreed on is kept, and the Keep is
// a third of it.
func TestOpenOfEachHold(t *testing.T) {
	sent := session.Machine{State: session.OpenSent}
	for third := int64(1); third <= 21845; third++ {
		for hold := third * 3; hold < third*3+3 && hold <= 65535; hold++ {
			m, l := sent.Do(message(session.Open, hold))
			if m != (session.Machine{State: session.OpenConfirm, Hold: hold}) || len(l) != 3 ||
				!equal(l[1], session.Action{Do: session.Set, What: session.Hold, Ticks: hold}) ||
				!equal(l[2], session.Action{Do: session.Set, What: session.Keep, Ticks: third}) {
				t.Fatalf("%d: %v, %v", hold, m, l)
			}
		}
	}
	for hold := int64(65536); hold < 200000; hold++ {
		if m, l := sent.Do(message(session.Open, hold)); m != session.New() || len(l) == 0 || l[0].Do != session.Tell || l[0].Fault != (api.Fault{Code: 2, Sub: 6}) {
			t.Fatalf("%d: %v, %v", hold, m, l)
		}
	}
}

// TestOneHoldStays: whatever a later message says.
func TestOneHoldStays(t *testing.T) {
	for _, hold := range []int64{0, 3, 4, 5, 6, 89, 90, 240, 65534, 65535} {
		set, keep := "set hold "+text(hold), "send keepalive, set keep "+text(hold/3)
		if hold == 0 {
			set, keep = "", ""
		}
		confirm := session.Machine{State: session.OpenConfirm, Hold: hold}
		up := session.Machine{State: session.Established, Hold: hold}
		for _, other := range []int64{0, 1, 7, -7, math.MaxInt64} {
			wantDo(t, confirm, message(session.Keepalive, other), set+", up", up)
			wantDo(t, up, message(session.Keepalive, other), set, up)
			wantDo(t, up, message(session.Update, other), set+", hand", up)
			wantDo(t, up, message(session.Refresh, other), "hand", up)
			ring := timer(session.Keep)
			ring.Hold = other
			wantDo(t, confirm, ring, keep, confirm)
			wantDo(t, up, ring, keep, up)
		}
	}
}

// TestHoldsThatNobodyAgreedOn: in the two states that have one it stays as it
// is handed in, and is asked as the chapter's table asks it.
func TestHoldsThatNobodyAgreedOn(t *testing.T) {
	for _, c := range []struct {
		hold int64
		keep string
	}{
		{1, "send keepalive, set keep 0"},
		{2, "send keepalive, set keep 0"},
		{65536, "send keepalive, set keep 21845"},
		{math.MaxInt64, "send keepalive, set keep 3074457345618258602"},
		{-1, ""},
		{-90, ""},
		{math.MinInt64, ""},
	} {
		confirm := session.Machine{State: session.OpenConfirm, Hold: c.hold}
		up := session.Machine{State: session.Established, Hold: c.hold}
		set := "set hold " + text(c.hold)
		wantDo(t, confirm, message(session.Keepalive, 0), set+", up", up)
		wantDo(t, confirm, timer(session.Keep), c.keep, confirm)
		wantDo(t, up, message(session.Keepalive, 0), set, up)
		wantDo(t, up, message(session.Update, 0), set+", hand", up)
		wantDo(t, up, timer(session.Keep), c.keep, up)
		wantDo(t, confirm, timer(session.Retry), "", confirm)
		wantDo(t, up, session.Event{}, "", up)
		wantDo(t, up, session.Event{Kind: session.Failed}, over+", down"+again, session.New())
	}
}

// TestStatesThatAreNone: they are as Idle, whatever their hold time.
func TestStatesThatAreNone(t *testing.T) {
	for _, state := range []int{0, -1, 7, 8, 256 + 6, math.MinInt, math.MaxInt} {
		for _, hold := range []int64{0, 90, -1, math.MaxInt64} {
			for name, e := range events() {
				d, does := machine()["idle"][name]
				if !does {
					d.then = "idle"
				}
				wantDo(t, session.Machine{State: state, Hold: hold}, e, d.acts, is(t, d.then))
			}
		}
	}
}

// TestNoHoldAheadOfAnOpen: up to OpenSent it is 0, whatever is handed in.
func TestNoHoldAheadOfAnOpen(t *testing.T) {
	for _, in := range []string{"idle", "connect", "active", "opensent"} {
		for _, hold := range []int64{90, 3, 1, -1, math.MinInt64, math.MaxInt64} {
			for name, e := range events() {
				d, does := machine()[in][name]
				if !does {
					d.then = in
				}
				m := is(t, in)
				m.Hold = hold
				wantDo(t, m, e, d.acts, is(t, d.then))
			}
		}
	}
}

// TestWhatAnEventHasBesides: fields that its kind does not speak of are not
// looked at; what the machine finds itself has no data.
func TestWhatAnEventHasBesides(t *testing.T) {
	for in, row := range machine() {
		for name, e := range events() {
			d, does := row[name]
			if !does {
				d.then = in
			}
			if e.Kind != session.Message && e.Kind != session.Timer {
				e.What = 3
			}
			if e.Kind != session.Message || e.What != session.Open {
				e.Hold = 2
			}
			if e.Kind != session.Wrong && e.Kind != session.Cease {
				e.Fault, e.Data = api.Fault{Code: 3, Sub: 5}, []byte{4, 4}
			}
			wantDo(t, is(t, in), e, d.acts, is(t, d.then))
		}
	}
}

// TestEachFault: any but 0, 0 is told as it is.
func TestEachFault(t *testing.T) {
	for _, state := range []int{session.OpenSent, session.OpenConfirm, session.Established} {
		for _, kind := range []int{session.Wrong, session.Cease} {
			for fault := range 1 << 16 {
				code, sub := byte(fault>>8), byte(fault)
				m, l := session.Machine{State: state, Hold: 9}.Do(faulty(kind, code, sub, sub))
				told := len(l) > 0 && equal(l[0], session.Action{Do: session.Tell, Fault: api.Fault{Code: code, Sub: sub}, Data: []byte{sub}})
				tells := slices.ContainsFunc(l, func(a session.Action) bool { return a.Do == session.Tell })
				if m != session.New() || told != (fault != 0) || tells != told {
					t.Fatalf("state %d, %d/%d: %v, %v", state, code, sub, m, l)
				}
			}
		}
	}
}

// TestData: it is told as it was handed in, however long, and lives apart.
func TestData(t *testing.T) {
	for _, size := range []int{0, 1, 2, 21, 4075, 4076, 4096, 65536} {
		for _, kind := range []int{session.Wrong, session.Cease} {
			data := bytes.Repeat([]byte{7, 0, 255}, size)[:size]
			mine := slices.Clone(data)
			_, l := session.Machine{State: session.Established}.Do(faulty(kind, 3, 1, mine...))
			if len(l) == 0 || l[0].Do != session.Tell || !bytes.Equal(l[0].Data, data) || !bytes.Equal(mine, data) {
				t.Fatalf("kind %d, %d bytes: %v", kind, size, l)
			}
			clear(mine)
			if !bytes.Equal(l[0].Data, data) {
				t.Errorf("kind %d, %d bytes: what was told has changed with what was handed in", kind, size)
			}
		}
	}
	e := faulty(session.Wrong, 3, 1, 5, 6)
	_, l := session.Machine{State: session.OpenSent}.Do(e)
	l[0].Data[0] = 0
	if !bytes.Equal(e.Data, []byte{5, 6}) {
		t.Error("what was handed in has changed with what was told")
	}
}

// TestActionsLiveApart: to change what one call told changes no other's.
func TestActionsLiveApart(t *testing.T) {
	for in := range machine() {
		for name, e := range events() {
			m, l := is(t, in).Do(e)
			want := slices.Clone(l)
			for i := range l {
				l[i] = session.Action{Do: session.Hand, What: 9, Ticks: 9}
			}
			n, got := is(t, in).Do(e)
			if m != n || !slices.EqualFunc(got, want, equal) {
				t.Errorf("%s, %s: %v, %v, then %v, %v", in, name, m, want, n, got)
			}
		}
	}
}
