package notice_test

import (
	"encoding/hex"
	"fmt"
	"strings"
	"testing"

	"consulate/api"
	"consulate/attrs"
	"consulate/caps"
	"consulate/frame"
	"consulate/notice"
	"consulate/open"
	"consulate/path"
	"consulate/prefix"
	"consulate/update"
)

// raw is the bytes of hexadecimal digits.
func raw(t *testing.T, text string) []byte {
	t.Helper()
	b, err := hex.DecodeString(strings.ReplaceAll(text, " ", ""))
	if err != nil {
		t.Fatal(err)
	}
	return b
}

// pre is the prefixes of a text, blanks between.
func pre(t *testing.T, text string) []api.Prefix {
	t.Helper()
	var l []api.Prefix
	for _, s := range strings.Fields(text) {
		p, e := prefix.Parse(s)
		if e != api.OK {
			t.Fatalf("the test's prefix %q is none: %d", s, e)
		}
		l = append(l, p)
	}
	return l
}

// pathOf is the path of a text.
func pathOf(t *testing.T, text string) path.Path {
	t.Helper()
	p, e := path.Parse(text)
	if e != api.OK {
		t.Fatalf("the test's text %q is none: %d", text, e)
	}
	return p
}

// shown is something as a test's failure tells it: what is long only in part.
func shown(v any) string {
	s := fmt.Sprintf("%+v", v)
	if len(s) > 500 {
		return fmt.Sprint(s[:500], ".. of ", len(s))
	}
	return s
}

// same holds a against b; lists without anything are alike, nil or not.
func same(a, b any) bool { return fmt.Sprintf("%+v", a) == fmt.Sprintf("%+v", b) }

// draws makes numbers below n that only look like chance.
func draws(seed uint32) func(n int) int {
	return func(n int) int {
		seed = seed*1664525 + 1013904223
		return int(seed>>8) % n
	}
}

// sessions is all that can be agreed on.
func sessions() []update.Session {
	var l []update.Session
	for k := range 8 {
		l = append(l, update.Session{Four: k&1 != 0, Outside: k&2 != 0, Pref: k&4 != 0})
	}
	return l
}

// allTypes is the five types of messages.
func allTypes() []byte {
	return []byte{frame.Open, frame.Update, frame.Notification, frame.Keepalive, frame.Refresh}
}

// opened is an OPEN with capabilities.
func opened() open.Open {
	o := open.Ours(70000, 90, 0x0a000001)
	o.Caps = append(o.Caps, caps.Cap{Code: 200, Value: []byte{7, 8, 9}})
	return o
}

// told is an update that withdraws and announces, with wide numbers.
func told(t *testing.T) update.Update {
	t.Helper()
	return update.Update{
		Withdrawn: pre(t, "9.0.0.0/8"),
		Attrs: attrs.Attrs{
			Has:         1<<attrs.Origin | 1<<attrs.Path | 1<<attrs.NextHop | 1<<attrs.Communities,
			Path:        pathOf(t, "7 70000"),
			NextHop:     0x0a000001,
			Communities: []uint32{5, 6},
			Others:      []attrs.Other{{Flags: 0xe0, Type: 99, Value: []byte{1, 2}}},
		},
		Announced: pre(t, "10.0.0.0/8 10.1.0.0/16"),
	}
}

// noticeOf is the notice of a fault, and data.
func noticeOf(code, sub byte, data ...byte) notice.Notice {
	return notice.Notice{Fault: api.Fault{Code: code, Sub: sub}, Data: data}
}

// full has something of every type, whatever its own is.
func full(t *testing.T, kind byte) notice.Message {
	t.Helper()
	return notice.Message{
		Type:    kind,
		Open:    opened(),
		Update:  told(t),
		Class:   attrs.Withdraw,
		Notice:  noticeOf(6, 2, 7),
		Refresh: notice.Refresh{Family: 0x0102, Sub: 3},
	}
}

// only is m with what its type has alone, and no class.
func only(m notice.Message) notice.Message {
	left := notice.Message{Type: m.Type}
	switch m.Type {
	case frame.Open:
		left.Open = m.Open
	case frame.Update:
		left.Update = m.Update
	case frame.Notification:
		left.Notice = m.Notice
	case frame.Refresh:
		left.Refresh = m.Refresh
	}
	return left
}

// wantMessage has the bytes read as m, and without a notice.
func wantMessage(t *testing.T, f frame.Message, s update.Session, m notice.Message) {
	t.Helper()
	before := shown(f)
	got, n := notice.Read(f, s)
	if !same(got, m) || !same(n, notice.Notice{}) {
		t.Errorf("Read(%s, %+v): %s, %s, want %s", shown(f), s, shown(got), shown(n), shown(m))
	}
	if shown(f) != before {
		t.Errorf("Read changed what it was given: %s, was %s", shown(f), before)
	}
}

// wantNotice has no message read, but this notice.
func wantNotice(t *testing.T, f frame.Message, s update.Session, n notice.Notice) {
	t.Helper()
	got, gotN := notice.Read(f, s)
	if !same(got, notice.Message{}) || !same(gotN, n) {
		t.Errorf("Read(%s, %+v): %s, %s, want no message, %s", shown(f), s, shown(got), shown(gotN), shown(n))
	}
}

// list is one list of an answer: how it looks, and a change of it, as far as it
// reaches, that undoes itself the second time.
type list struct {
	name string
	look func() string
	turn func()
}

// numbers is a list of numbers.
func numbers[N byte | uint32 | api.AS](name string, l []N) list {
	return list{name, func() string { return fmt.Sprint(l) }, func() {
		l := l[:cap(l)]
		for k := range l {
			l[k] = ^l[k]
		}
	}}
}

// prefixes is a list of prefixes.
func prefixes(name string, l []api.Prefix) list {
	return list{name, func() string { return fmt.Sprint(l) }, func() {
		l := l[:cap(l)]
		for k := range l {
			l[k].Bits = ^l[k].Bits
		}
	}}
}

// listsOf is all lists of a message.
func listsOf(m notice.Message) []list {
	l := []list{
		numbers("data", m.Notice.Data),
		prefixes("withdrawn", m.Update.Withdrawn),
		prefixes("announced", m.Update.Announced),
		numbers("communities", m.Update.Attrs.Communities),
	}
	for k, c := range m.Open.Caps {
		l = append(l, numbers(fmt.Sprint("capability ", k), c.Value))
	}
	for k, s := range m.Update.Attrs.Path {
		l = append(l, numbers(fmt.Sprint("segment ", k), s.Numbers))
	}
	for k, o := range m.Update.Attrs.Others {
		l = append(l, numbers(fmt.Sprint("other ", k), o.Value))
	}
	return l
}

// wantApart fails if a change of one list is seen in another one.
func wantApart(t *testing.T, lists []list) {
	t.Helper()
	for i, a := range lists {
		var before []string
		for _, b := range lists {
			before = append(before, b.look())
		}
		a.turn()
		for k, b := range lists {
			if k != i && b.look() != before[k] {
				t.Errorf("%s and %s share memory", a.name, b.name)
			}
		}
		a.turn()
	}
}
