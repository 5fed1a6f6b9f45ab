package notice_test

import (
	"bytes"
	"testing"

	"consulate/api"
	"consulate/attrs"
	"consulate/frame"
	"consulate/notice"
	"consulate/open"
	"consulate/update"
)

// bodyOf is a type's body, as Bytes lays it.
func bodyOf(t *testing.T, kind byte, four bool) []byte {
	t.Helper()
	b, e := notice.Bytes(full(t, kind), four)
	if e != api.OK || len(b) < frame.Head {
		t.Fatalf("type %d has no bytes: % x, %d", kind, b, e)
	}
	return b[frame.Head:]
}

// with is a message of these types and bytes.
func with(kind byte, body ...byte) frame.Message { return frame.Message{Type: kind, Body: body} }

func TestReadOfEachType(t *testing.T) {
	for _, s := range sessions() {
		for what, c := range map[string]struct {
			f frame.Message
			m notice.Message
		}{
			"keepalive": {with(4), notice.Message{Type: 4}},
			"cease":     {with(3, 6, 2, 7), notice.Message{Type: 3, Notice: noticeOf(6, 2, 7)}},
			"no data":   {with(3, 4, 0), notice.Message{Type: 3, Notice: noticeOf(4, 0)}},
			"zeros":     {with(3, 0, 0), notice.Message{Type: 3}},
			"much data": {with(3, append([]byte{255, 254}, bytes.Repeat([]byte{9}, 4075)...)...), notice.Message{Type: 3, Notice: noticeOf(255, 254, bytes.Repeat([]byte{9}, 4075)...)}},
			"refresh":   {with(5, 0, 1, 0, 1), notice.Message{Type: 5, Refresh: notice.Refresh{Family: 1, Sub: 1}}},
			"family":    {with(5, 0xfe, 0xdc, 0, 0xba), notice.Message{Type: 5, Refresh: notice.Refresh{Family: 0xfedc, Sub: 0xba}}},
			"open": {with(1, 4, 0xfd, 0xe9, 0, 90, 10, 0, 0, 1, 4, 2, 2, 2, 0), notice.Message{Type: 1, Open: func() open.Open {
				o, _, _ := open.Get(raw(t, "04 fde9 005a 0a000001 04 02 02 02 00"))
				return o
			}()}},
			"withdrawn": {with(2, 0, 2, 8, 10, 0, 0), notice.Message{Type: 2, Update: update.Update{Withdrawn: pre(t, "10.0.0.0/8")}}},
			"end":       {with(2, 0, 0, 0, 0), notice.Message{Type: 2}},
			"all missing": {with(2, 0, 0, 0, 0, 8, 10), notice.Message{
				Type: 2, Update: update.Update{Withdrawn: pre(t, "10.0.0.0/8")}, Class: attrs.Withdraw,
			}},
		} {
			t.Run(what, func(t *testing.T) { wantMessage(t, c.f, s, c.m) })
		}
	}
}

// TestReadRefreshDoesNotLookAtTheThirdByte: whatever it is.
func TestReadRefreshDoesNotLookAtTheThirdByte(t *testing.T) {
	for third := range 256 {
		wantMessage(t, with(5, 0, 1, byte(third), 1), update.Session{}, notice.Message{Type: 5, Refresh: notice.Refresh{Family: 1, Sub: 1}})
	}
}

// TestReadNotificationsOfAnyFault: those that nobody knows, too.
func TestReadNotificationsOfAnyFault(t *testing.T) {
	for code := range 256 {
		for sub := range 256 {
			c, s := byte(code), byte(sub)
			m, n := notice.Read(with(3, c, s, s, c, 5), update.Session{})
			if m.Type != 3 || m.Notice.Fault != (api.Fault{Code: c, Sub: s}) || !bytes.Equal(m.Notice.Data, []byte{s, c, 5}) || n.Fault != (api.Fault{}) || len(n.Data) != 0 {
				t.Fatalf("%d, %d: %v, %v", code, sub, m, n)
			}
		}
	}
}

// TestReadTypesThatAreNone: that goes ahead of any length, and of what the
// body says.
func TestReadTypesThatAreNone(t *testing.T) {
	bodies := [][]byte{nil, {}, {0}, {0, 1, 0, 1}, make([]byte, 4077), make([]byte, 5000), make([]byte, 70000)}
	for _, kind := range allTypes() {
		bodies = append(bodies, bodyOf(t, kind, true))
	}
	for kind := range 256 {
		if kind >= 1 && kind <= 5 {
			continue
		}
		for _, b := range bodies {
			wantNotice(t, with(byte(kind), b...), update.Session{Four: true}, noticeOf(1, 3, byte(kind)))
		}
	}
}

// TestReadLengthsThatAreTooSmall: they go ahead of what the body says.
func TestReadLengthsThatAreTooSmall(t *testing.T) {
	for kind, least := range map[byte]int{frame.Open: 10, frame.Update: 4, frame.Notification: 2, frame.Refresh: 4} {
		for _, s := range sessions() {
			for size := range least {
				for _, fill := range []byte{0, 4, 255} {
					wantNotice(t, with(kind, bytes.Repeat([]byte{fill}, size)...), s, noticeOf(1, 2, 0, byte(19+size)))
				}
			}
			if _, n := notice.Read(with(kind, make([]byte, least)...), s); n.Fault.Code == 1 {
				t.Errorf("type %d, %d bytes: %v", kind, least, n)
			}
		}
	}
}

// TestReadLengthsOfKeepaliveAndRefresh: each has just one; what two bytes can't
// tell is ff ff.
func TestReadLengthsOfKeepaliveAndRefresh(t *testing.T) {
	for kind, only := range map[byte]int{frame.Keepalive: 0, frame.Refresh: 4} {
		sizes := []int{236, 237, 238, 4076, 4077, 4078, 5000, 32768, 65515, 65516, 65517, 65518, 65536, 1 << 20}
		for size := range 30 {
			sizes = append(sizes, size)
		}
		for _, size := range sizes {
			if size == only {
				continue
			}
			length := min(19+size, 65535)
			wantNotice(t, with(kind, make([]byte, size)...), update.Session{}, noticeOf(1, 2, byte(length>>8), byte(length)))
		}
	}
}

// wantOpen has a body read as open.Get reads it.
func wantOpen(t *testing.T, body []byte, s update.Session) {
	t.Helper()
	o, f, data := open.Get(body)
	if f != (api.Fault{}) {
		wantNotice(t, with(1, body...), s, notice.Notice{Fault: f, Data: data})
		return
	}
	wantMessage(t, with(1, body...), s, notice.Message{Type: 1, Open: o})
}

func TestReadOpenFaults(t *testing.T) {
	for body, n := range map[string]notice.Notice{
		"03 fde9 005a 0a000001 00":             noticeOf(2, 1, 0, 4),
		"00 0000 0000 00000000 ff":             noticeOf(2, 1, 0, 4),
		"04 fde9 005a 0a000001 01":             noticeOf(2, 0),
		"04 fde9 005a 0a000001 00 02":          noticeOf(2, 0),
		"04 fde9 005a 0a000001 04 01 02 02 00": noticeOf(2, 4),
		"04 fde9 005a 0a000001 04 02 03 02 00": noticeOf(2, 0),
	} {
		wantNotice(t, with(1, raw(t, body)...), update.Session{}, n)
	}
}

// TestReadOpensNearRightOnes: every byte changed, and every length.
func TestReadOpensNearRightOnes(t *testing.T) {
	right := bodyOf(t, frame.Open, true)
	wantOpen(t, right, update.Session{})
	for at := range right {
		for _, d := range []byte{1, 2, 3, 128, 255} {
			b := bytes.Clone(right)
			b[at] += d
			wantOpen(t, b, update.Session{Four: true})
		}
		if at >= 10 {
			wantOpen(t, right[:at], update.Session{Outside: true})
		}
		wantOpen(t, append(bytes.Clone(right), right[at:]...), update.Session{Pref: true})
	}
}

// wantUpdate has a body read as update.Read reads it, and tells the class.
func wantUpdate(t *testing.T, body []byte, s update.Session) int {
	t.Helper()
	r := update.Read(body, s)
	if r.Fate.Class == attrs.Reset {
		wantNotice(t, with(2, body...), s, notice.Notice{Fault: r.Fate.Fault, Data: r.Fate.Data})
		return attrs.Reset
	}
	wantMessage(t, with(2, body...), s, notice.Message{Type: 2, Update: r.Update, Class: r.Fate.Class})
	return r.Fate.Class
}

func TestReadUpdateFaults(t *testing.T) {
	for body, n := range map[string]notice.Notice{
		"0005 080a 0000":                noticeOf(3, 1),
		"0000 0001":                     noticeOf(3, 1),
		"0001 21 0000":                  noticeOf(3, 10),
		"0000 0000 21":                  noticeOf(3, 10),
		"0000 0003 406300":              noticeOf(3, 2, 0x40, 0x63, 0),
		"0001 21 0003 406300":           noticeOf(3, 10),
		"0000 0003 406300 21":           noticeOf(3, 2, 0x40, 0x63, 0),
		"0002 080a 0003 406300 09 0000": noticeOf(3, 2, 0x40, 0x63, 0),
	} {
		for _, s := range sessions() {
			wantNotice(t, with(2, raw(t, body)...), s, n)
		}
	}
}

// TestReadUpdatesNearRightOnes: every byte changed, and every length, in all
// sessions; all four classes come about.
func TestReadUpdatesNearRightOnes(t *testing.T) {
	seen := map[int]int{}
	for _, s := range sessions() {
		right := bodyOf(t, frame.Update, s.Four)
		seen[wantUpdate(t, right, s)]++
		for at := range right {
			for _, d := range []byte{1, 2, 64, 128, 255} {
				b := bytes.Clone(right)
				b[at] += d
				seen[wantUpdate(t, b, s)]++
			}
			if at >= 4 {
				seen[wantUpdate(t, right[:at], s)]++
			}
		}
	}
	if len(seen) != 4 {
		t.Errorf("not every class came about: %v", seen)
	}
}

// TestReadUpdateHangsOnTheSession: the very bytes are another update, with
// numbers of four bytes, from outside, and where Pref is wanted.
func TestReadUpdateHangsOnTheSession(t *testing.T) {
	body := bodyOf(t, frame.Update, true)
	m, n := notice.Read(with(2, body...), update.Session{Four: true, Outside: true})
	if n.Fault != (api.Fault{}) || m.Class != attrs.None || m.Update.Attrs.Path.Text() != "7 70000" || len(m.Update.Announced) != 2 {
		t.Errorf("of four bytes: %s, %v", shown(m), n)
	}
	if m, _ := notice.Read(with(2, body...), update.Session{Outside: true}); m.Update.Attrs.Path.Text() == "7 70000" {
		t.Errorf("of two bytes: %s", shown(m))
	}
	if m, _ := notice.Read(with(2, body...), update.Session{Four: true, Pref: true}); m.Class != attrs.Withdraw || len(m.Update.Withdrawn) != 3 {
		t.Errorf("Pref wanted: %s", shown(m))
	}
}

// TestReadTellsNewMemory: of what was given, and of each other list.
func TestReadTellsNewMemory(t *testing.T) {
	for _, kind := range allTypes() {
		body := bodyOf(t, kind, true)
		m, n := notice.Read(with(kind, body...), update.Session{Four: true})
		if n.Fault != (api.Fault{}) {
			t.Fatalf("type %d: %v", kind, n)
		}
		wantApart(t, append(listsOf(m), numbers("the body", body)))
	}
	for what, f := range map[string]frame.Message{
		"a type":       with(9, 1, 2, 3),
		"a length":     with(4, 1, 2, 3),
		"an OPEN":      with(1, raw(t, "03 fde9 005a 0a000001 00")...),
		"an attribute": with(2, raw(t, "0000 0003 406300")...),
	} {
		_, n := notice.Read(f, update.Session{})
		_, again := notice.Read(f, update.Session{})
		t.Run(what, func(t *testing.T) {
			wantApart(t, []list{numbers("the data", n.Data), numbers("the data again", again.Data), numbers("the body", f.Body)})
		})
	}
}
