package notice_test

import (
	"bytes"
	"fmt"
	"slices"
	"testing"

	"consulate/api"
	"consulate/attrs"
	"consulate/caps"
	"consulate/frame"
	"consulate/notice"
	"consulate/open"
	"consulate/update"
)

// wantBytes has m told as these bytes, or not, with that error.
func wantBytes(t *testing.T, m notice.Message, four bool, b []byte, e api.Errno) {
	t.Helper()
	before := fmt.Sprintf("%+v", m)
	got, gotE := notice.Bytes(m, four)
	if !bytes.Equal(got, b) || gotE != e {
		t.Errorf("Bytes(%s, %v): %s, %d, want %s, %d", shown(m), four, shown(got), gotE, shown(b), e)
	}
	if fmt.Sprintf("%+v", m) != before {
		t.Errorf("Bytes changed what it was given: %s, was %s", shown(m), before)
	}
}

// whole is a message's form.
func whole(kind byte, body []byte) []byte {
	length := 19 + len(body)
	b := append(bytes.Repeat([]byte{0xff}, 16), byte(length>>8), byte(length), kind)
	return append(b, body...)
}

func TestBytesOfEachType(t *testing.T) {
	u, o := told(t), opened()
	for _, four := range []bool{false, true} {
		ofUpdate, e := update.Bytes(u, four)
		ofOpen, f := open.Put(o)
		if e != api.OK || f != api.OK {
			t.Fatal(e, f)
		}
		wantBytes(t, notice.Message{Type: 1, Open: o}, four, whole(1, ofOpen), api.OK)
		wantBytes(t, notice.Message{Type: 2, Update: u}, four, whole(2, ofUpdate), api.OK)
		wantBytes(t, notice.Message{Type: 2}, four, whole(2, make([]byte, 4)), api.OK)
		wantBytes(t, notice.Message{Type: 3, Notice: noticeOf(6, 2, 7)}, four, whole(3, []byte{6, 2, 7}), api.OK)
		wantBytes(t, notice.Message{Type: 3, Notice: noticeOf(255, 254)}, four, whole(3, []byte{255, 254}), api.OK)
		wantBytes(t, notice.Message{Type: 3}, four, whole(3, []byte{0, 0}), api.OK)
		wantBytes(t, notice.Message{Type: 4}, four, whole(4, nil), api.OK)
		wantBytes(t, notice.Message{Type: 5, Refresh: notice.Refresh{Family: 1, Sub: 1}}, four, whole(5, []byte{0, 1, 0, 1}), api.OK)
		wantBytes(t, notice.Message{Type: 5, Refresh: notice.Refresh{Family: 0xfedc, Sub: 0xba}}, four, whole(5, []byte{0xfe, 0xdc, 0, 0xba}), api.OK)
		wantBytes(t, notice.Message{Type: 5}, four, whole(5, []byte{0, 0, 0, 0}), api.OK)
	}
}

// TestBytesOfWideNumbers: they are told whole in a session of four bytes alone.
func TestBytesOfWideNumbers(t *testing.T) {
	m := notice.Message{Type: 2, Update: told(t)}
	four, e := notice.Bytes(m, true)
	two, f := notice.Bytes(m, false)
	if e != api.OK || f != api.OK || bytes.Equal(four, two) {
		t.Fatalf("% x, %d; % x, %d", four, e, two, f)
	}
	wide := raw(t, "40 02 0a 02 02 00000007 00011170")
	narrow := raw(t, "40 02 06 02 02 0007 5ba0")
	if !bytes.Contains(four, wide) || bytes.Contains(four, narrow) {
		t.Errorf("of four bytes: % x", four)
	}
	if !bytes.Contains(two, narrow) || bytes.Contains(two, wide) {
		t.Errorf("of two bytes: % x", two)
	}
}

// TestBytesHaveJustWhatTheTypeHas: what else the message has is not told, nor
// the class; nor is it wrong.
func TestBytesHaveJustWhatTheTypeHas(t *testing.T) {
	for _, kind := range allTypes() {
		m := full(t, kind)
		want, e := notice.Bytes(only(m), true)
		if e != api.OK {
			t.Fatalf("type %d: %d", kind, e)
		}
		for _, class := range []int{-1, attrs.None, attrs.Discard, attrs.Withdraw, attrs.Reset, 99} {
			m.Class = class
			wantBytes(t, m, true, want, api.OK)
		}
		if kind != frame.Open {
			m.Open.Caps = []caps.Cap{{Value: make([]byte, 300)}}
		}
		if kind != frame.Update {
			m.Update.Announced = []api.Prefix{{Bits: 33}}
		}
		if kind != frame.Notification {
			m.Notice.Data = make([]byte, 5000)
		}
		wantBytes(t, m, true, want, api.OK)
	}
}

// TestBytesOfTypesThatAreNone: whatever else is wrong.
func TestBytesOfTypesThatAreNone(t *testing.T) {
	for kind := range 256 {
		if kind >= 1 && kind <= 5 {
			continue
		}
		m := full(t, byte(kind))
		wantBytes(t, m, true, nil, api.ErrArg)
		wantBytes(t, notice.Message{Type: byte(kind)}, false, nil, api.ErrArg)
		m.Notice.Data = make([]byte, 5000)
		m.Open.Caps = slices.Repeat([]caps.Cap{{Value: make([]byte, 200)}}, 9)
		wantBytes(t, m, false, nil, api.ErrArg)
	}
}

// TestBytesTellsOpensErrors: one that may not be, and parameters that are too
// long.
func TestBytesTellsOpensErrors(t *testing.T) {
	long := func(n int) caps.Cap { return caps.Cap{Code: 7, Value: make([]byte, n)} }
	for _, l := range [][]caps.Cap{
		{long(251)}, {long(252)}, {long(253)}, {long(254)}, {long(255)}, {long(256)}, {long(70000)},
		{long(200), long(200)}, {long(200), long(300)}, {long(123), long(124)}, {long(124), long(125)},
	} {
		for _, version := range []byte{0, 3, 4} {
			o := open.Open{Version: version, AS: 1, Caps: l}
			body, e := open.Put(o)
			if e != api.OK {
				wantBytes(t, notice.Message{Type: 1, Open: o}, true, nil, e)
				continue
			}
			wantBytes(t, notice.Message{Type: 1, Open: o}, true, whole(1, body), api.OK)
		}
	}
	wantBytes(t, notice.Message{Type: 1, Open: open.Open{Caps: []caps.Cap{long(300)}}}, false, nil, api.ErrArg)
	wantBytes(t, notice.Message{Type: 1, Open: open.Open{Caps: []caps.Cap{long(200), long(200)}}}, false, nil, api.ErrLong)
}

// TestBytesTellsUpdatesErrors: each of them.
func TestBytesTellsUpdatesErrors(t *testing.T) {
	u := told(t)
	change := func(by func(u *update.Update)) update.Update {
		c := told(t)
		by(&c)
		return c
	}
	for what, c := range map[string]struct {
		u update.Update
		e api.Errno
	}{
		"a prefix":       {change(func(u *update.Update) { u.Withdrawn[0].Bits = 33 }), api.ErrArg},
		"bits behind":    {change(func(u *update.Update) { u.Announced[0].IP |= 1 }), api.ErrArg},
		"no next hop":    {update.Update{Attrs: u.Attrs.Without(attrs.NextHop), Announced: u.Announced}, api.ErrArg},
		"no attributes":  {update.Update{Announced: u.Announced}, api.ErrArg},
		"goes beside":    {change(func(u *update.Update) { u.Attrs = update.Narrowed(u.Attrs) }), api.ErrArg},
		"origin":         {change(func(u *update.Update) { u.Attrs.Origin = 3 }), api.ErrArg},
		"too many":       {change(func(u *update.Update) { u.Withdrawn = slices.Repeat(pre(t, "10.1.2.3/32"), 815) }), api.ErrLong},
		"more than that": {change(func(u *update.Update) { u.Withdrawn = slices.Repeat(pre(t, "10.1.2.3/32"), 70000) }), api.ErrLong},
	} {
		for _, four := range []bool{false, true} {
			_, e := update.Bytes(c.u, four)
			if e != c.e {
				t.Fatalf("the test's update is not wrong so, %s: %d", what, e)
			}
			wantBytes(t, notice.Message{Type: 2, Update: c.u}, four, nil, e)
		}
	}
}

// TestBytesAsLongAsTheyMayBe: 4096 and no more.
func TestBytesAsLongAsTheyMayBe(t *testing.T) {
	for n := 4070; n < 4085; n++ {
		data := bytes.Repeat([]byte{5}, n)
		m := notice.Message{Type: 3, Notice: noticeOf(6, 2, data...)}
		if 19+2+n <= 4096 {
			wantBytes(t, m, true, whole(3, append([]byte{6, 2}, data...)), api.OK)
			continue
		}
		wantBytes(t, m, true, nil, api.ErrLong)
	}
	for _, n := range []int{65514, 65515, 65534, 65535, 65536, 1 << 20} {
		wantBytes(t, notice.Message{Type: 3, Notice: noticeOf(6, 2, make([]byte, n)...)}, false, nil, api.ErrLong)
	}
	// 4 bytes tell lengths; of each /32 are 5, of each /8 2.
	l := slices.Repeat(pre(t, "10.1.2.3/32"), 814)
	b, e := notice.Bytes(notice.Message{Type: 2, Update: update.Update{Withdrawn: append(l, pre(t, "0.0.0.0/0 11.0.0.0/8")...)}}, true)
	if e != api.OK || len(b) != 4096 {
		t.Errorf("4096 bytes: %d, %d", len(b), e)
	}
	wantBytes(t, notice.Message{Type: 2, Update: update.Update{Withdrawn: append(l, pre(t, "0.0.0.0/0 0.0.0.0/0 11.0.0.0/8")...)}}, true, nil, api.ErrLong)
}

// TestBytesTellsNewMemory: of what was given, and of another answer.
func TestBytesTellsNewMemory(t *testing.T) {
	for _, kind := range allTypes() {
		m := full(t, kind)
		a, _ := notice.Bytes(m, true)
		b, _ := notice.Bytes(m, true)
		wantApart(t, append(listsOf(m), numbers("the bytes", a), numbers("the bytes again", b)))
	}
}
