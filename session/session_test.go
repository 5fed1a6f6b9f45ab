package session_test

import (
	"bytes"
	"encoding/hex"
	"math"
	"slices"
	"strconv"
	"strings"
	"testing"

	"consulate/api"
	"consulate/session"
)

// words are what the chapter calls the states, messages, timers and actions.
var (
	states   = []string{"idle", "connect", "active", "opensent", "openconfirm", "established"}
	messages = []string{"open", "update", "notification", "keepalive", "refresh"}
	timers   = []string{"retry", "hold", "keep"}
	actions  = []string{"send", "tell", "set", "unset", "close", "dial", "up", "down", "hand"}
)

// number is which of the words it is, from 1 on.
func number(t *testing.T, words []string, word string) int {
	t.Helper()
	i := slices.Index(words, word)
	if i < 0 {
		t.Fatalf("%q is none of %v", word, words)
	}
	return i + 1
}

func TestNumbers(t *testing.T) {
	for _, row := range [][]int{
		{session.Idle, session.Connect, session.Active, session.OpenSent, session.OpenConfirm, session.Established},
		{session.Open, session.Update, session.Notification, session.Keepalive, session.Refresh},
		{session.Retry, session.Hold, session.Keep},
		{session.Start, session.Halt, session.Connected, session.Failed, session.Message, session.Timer, session.Wrong, session.Cease},
		{session.Send, session.Tell, session.Set, session.Unset, session.Close, session.Dial, session.Up, session.Down, session.Hand},
	} {
		for i, n := range row {
			if n != i+1 {
				t.Errorf("%v: %d is %d", row, i+1, n)
			}
		}
	}
}

func TestNew(t *testing.T) {
	if m := session.New(); m != (session.Machine{State: 1, Hold: 0}) {
		t.Error(m)
	}
}

func message(what byte, hold int64) session.Event {
	return session.Event{Kind: session.Message, What: what, Hold: hold}
}

func timer(what byte) session.Event { return session.Event{Kind: session.Timer, What: what} }

// faulty is a Wrong or a Cease.
func faulty(kind int, code, sub byte, data ...byte) session.Event {
	return session.Event{Kind: kind, Fault: api.Fault{Code: code, Sub: sub}, Data: data}
}

// events are those that may be, and some that may not, by their names.
func events() map[string]session.Event {
	l := map[string]session.Event{
		"start":         {Kind: 1},
		"halt":          {Kind: 2},
		"connected":     {Kind: 3},
		"failed":        {Kind: 4},
		"open":          message(1, 90),
		"open 0":        message(1, 0),
		"open 3":        message(1, 3),
		"open 5":        message(1, 5),
		"open 65535":    message(1, 65535),
		"update":        message(2, 0),
		"notification":  message(3, 0),
		"keepalive":     message(4, 0),
		"refresh":       message(5, 0),
		"timer retry":   timer(1),
		"timer hold":    timer(2),
		"timer keep":    timer(3),
		"wrong":         faulty(7, 3, 1, 1, 2),
		"wrong bare":    faulty(7, 2, 0),
		"wrong none":    faulty(7, 0, 0, 1, 2),
		"wrong 0/1":     faulty(7, 0, 1, 9),
		"cease":         faulty(8, 6, 4),
		"cease data":    faulty(8, 6, 1, 255, 0, 1),
		"cease none":    faulty(8, 0, 0),
		"cease 255/255": faulty(8, 255, 255),
	}
	for _, hold := range []int64{-1, 1, 2, 65536, math.MinInt64, math.MaxInt64, 1 << 32, -1 << 32, 1<<32 + 90} {
		l["open "+strconv.FormatInt(hold, 10)] = message(1, hold)
	}
	for _, what := range []byte{0, 6, 7, 128, 255} {
		l["message "+strconv.Itoa(int(what))] = message(what, 90)
		l["timer "+strconv.Itoa(int(what))] = timer(what)
	}
	l["timer 4"] = timer(4)
	for _, kind := range []int{0, -1, 9, 10, 256 + 1, math.MinInt, math.MaxInt} {
		l["kind "+strconv.Itoa(kind)] = session.Event{Kind: kind, What: 1, Hold: 90, Fault: api.Fault{Code: 6, Sub: 2}, Data: []byte{1}}
	}
	return l
}

// acts are the actions that a text tells, parted by commas.
func acts(t *testing.T, text string) []session.Action {
	t.Helper()
	var l []session.Action
	for _, part := range strings.Split(text, ", ") {
		w := strings.Fields(part)
		if len(w) == 0 {
			continue
		}
		a := session.Action{Do: number(t, actions, w[0])}
		switch w[0] {
		case "send":
			a.What = byte(number(t, messages, w[1]))
		case "unset":
			a.What = byte(number(t, timers, w[1]))
		case "set":
			a.What = byte(number(t, timers, w[1]))
			a.Ticks, _ = strconv.ParseInt(w[2], 10, 64)
		case "tell":
			code, sub, _ := strings.Cut(w[1], "/")
			a.Fault = api.Fault{Code: digits(t, code), Sub: digits(t, sub)}
			a.Data, _ = hex.DecodeString(strings.Join(w[2:], ""))
		}
		l = append(l, a)
	}
	return l
}

func digits(t *testing.T, s string) byte {
	t.Helper()
	n, err := strconv.ParseUint(s, 10, 8)
	if err != nil {
		t.Fatal(err)
	}
	return byte(n)
}

func equal(a, b session.Action) bool {
	return a.Do == b.Do && a.What == b.What && a.Ticks == b.Ticks && a.Fault == b.Fault && bytes.Equal(a.Data, b.Data)
}

// wantDo holds what m does, and what it is then.
func wantDo(t *testing.T, m session.Machine, e session.Event, does string, then session.Machine) {
	t.Helper()
	got, l := m.Do(e)
	if got != then {
		t.Errorf("%v, %v: then %v, not %v", m, e, got, then)
	}
	if want := acts(t, does); !slices.EqualFunc(l, want, equal) {
		t.Errorf("%v, %v: does\n%v, not\n%v", m, e, l, want)
	}
}

// over is how it ends, without what is told ahead, and done behind.
const over = "close, unset retry, unset hold, unset keep"

// again is what stands behind it, unless somebody stopped it.
const again = ", set retry 120"

// does is what a state does with an event, and what it is then; the hold time
// is left out if it is 0.
type does struct{ acts, then string }

// ended is what ends it in each of the three states that have a connection;
// down is what stands behind the timers.
func ended(down string, more map[string]does) map[string]does {
	all := map[string]does{
		"notification":  {over + down + again, "idle"},
		"halt":          {"tell 6/2, " + over + down, "idle"},
		"timer hold":    {"tell 4/0, " + over + down + again, "idle"},
		"wrong":         {"tell 3/1 01 02, " + over + down + again, "idle"},
		"wrong bare":    {"tell 2/0, " + over + down + again, "idle"},
		"wrong none":    {over + down + again, "idle"},
		"wrong 0/1":     {"tell 0/1 09, " + over + down + again, "idle"},
		"cease":         {"tell 6/4, " + over + down + again, "idle"},
		"cease data":    {"tell 6/1 ff 00 01, " + over + down + again, "idle"},
		"cease none":    {over + down + again, "idle"},
		"cease 255/255": {"tell 255/255, " + over + down + again, "idle"},
	}
	for name, e := range events() {
		if e.Kind == session.Message && (e.What < 1 || e.What > 5) {
			all[name] = does{"tell 1/3, " + over + down + again, "idle"}
		}
		if e.Kind == session.Message && e.What == session.Open && (e.Hold < 0 || e.Hold == 1 || e.Hold == 2 || e.Hold > 65535) {
			all[name] = does{"tell 2/6, " + over + down + again, "idle"}
		}
	}
	for name, d := range more {
		all[name] = d
	}
	return all
}

// opens are all the Opens whose hold time may be.
func opens(d does, more map[string]does) map[string]does {
	for _, name := range []string{"open", "open 0", "open 3", "open 5", "open 65535"} {
		more[name] = d
	}
	return more
}

// seeking is what Connect and Active do.
func seeking() map[string]does {
	return map[string]does{
		"halt":        {over, "idle"},
		"connected":   {"unset retry, send open, set hold 240", "opensent"},
		"failed":      {"set retry 120", "active"},
		"timer retry": {"set retry 120, dial", "connect"},
	}
}

// unexpected is what ends it with that subcode of 5.
func unexpected(sub, down string) does {
	return does{"tell 5/" + sub + ", " + over + down + again, "idle"}
}

// machine is the chapter's table: all that a machine does that does anything.
func machine() map[string]map[string]does {
	return map[string]map[string]does{
		"idle": {
			"start":       {"set retry 120, dial", "connect"},
			"timer retry": {"set retry 120, dial", "connect"},
			"halt":        {"unset retry", "idle"},
		},
		"connect": seeking(),
		"active":  seeking(),
		"opensent": ended("", map[string]does{
			"open":       {"send keepalive, set hold 90, set keep 30", "openconfirm 90"},
			"open 0":     {"send keepalive, unset hold", "openconfirm"},
			"open 3":     {"send keepalive, set hold 3, set keep 1", "openconfirm 3"},
			"open 5":     {"send keepalive, set hold 5, set keep 1", "openconfirm 5"},
			"open 65535": {"send keepalive, set hold 65535, set keep 21845", "openconfirm 65535"},
			"failed":     {"close, unset hold, set retry 120", "active"},
			"update":     unexpected("1", ""),
			"keepalive":  unexpected("1", ""),
			"refresh":    unexpected("1", ""),
		}),
		"openconfirm": ended("", opens(unexpected("2", ""), map[string]does{
			"keepalive": {"up", "established"},
			"update":    unexpected("2", ""),
			"refresh":   unexpected("2", ""),
			"failed":    {over + again, "idle"},
		})),
		"openconfirm 90": ended("", opens(unexpected("2", ""), map[string]does{
			"keepalive":  {"set hold 90, up", "established 90"},
			"update":     unexpected("2", ""),
			"refresh":    unexpected("2", ""),
			"failed":     {over + again, "idle"},
			"timer keep": {"send keepalive, set keep 30", "openconfirm 90"},
		})),
		"established": ended(", down", opens(unexpected("3", ", down"), map[string]does{
			"update":  {"hand", "established"},
			"refresh": {"hand", "established"},
			"failed":  {over + ", down" + again, "idle"},
		})),
		"established 90": ended(", down", opens(unexpected("3", ", down"), map[string]does{
			"keepalive":  {"set hold 90", "established 90"},
			"update":     {"set hold 90, hand", "established 90"},
			"refresh":    {"hand", "established 90"},
			"failed":     {over + ", down" + again, "idle"},
			"timer keep": {"send keepalive, set keep 30", "established 90"},
		})),
	}
}

// is is the machine that a text tells: a state, and its hold time.
func is(t *testing.T, text string) session.Machine {
	t.Helper()
	state, hold, _ := strings.Cut(text, " ")
	ticks, _ := strconv.ParseInt(hold, 10, 64)
	return session.Machine{State: number(t, states, state), Hold: ticks}
}

// TestTheMachine: all events in all states. What the chapter's table has not
// does nothing.
func TestTheMachine(t *testing.T) {
	for in, row := range machine() {
		for name := range row {
			if _, known := events()[name]; !known {
				t.Fatalf("%q is no event", name)
			}
		}
		for name, e := range events() {
			d, does := row[name]
			if !does {
				d.then = in
			}
			wantDo(t, is(t, in), e, d.acts, is(t, d.then))
		}
	}
}

func TestAsTheChapterTells(t *testing.T) {
	m := session.New()
	var l []session.Action
	for _, e := range []session.Event{{Kind: session.Start}, {Kind: session.Connected}, message(session.Open, 90), message(session.Keepalive, 0)} {
		m, l = m.Do(e)
	}
	if m != (session.Machine{State: session.Established, Hold: 90}) || !slices.EqualFunc(l, acts(t, "set hold 90, up"), equal) {
		t.Error(m, l)
	}
}
