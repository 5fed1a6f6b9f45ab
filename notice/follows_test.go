package notice_test

import (
	"bytes"
	"slices"
	"testing"

	"consulate/api"
	"consulate/attrs"
	"consulate/caps"
	"consulate/frame"
	"consulate/notice"
	"consulate/open"
	"consulate/path"
	"consulate/prefix"
	"consulate/update"
)

// taken is the only message that an intake has of b, fed in chunks.
func taken(t *testing.T, b []byte, chunk int) frame.Message {
	t.Helper()
	in := frame.New()
	var got []frame.Message
	for c := range slices.Chunk(b, chunk) {
		got = append(got, in.Feed(c)...)
	}
	if f, data := in.Fault(); len(got) != 1 || in.Waits() != 0 || f != (api.Fault{}) || len(data) != 0 {
		t.Fatalf("%s: %s messages, %d wait, %v % x", shown(b), shown(got), in.Waits(), f, data)
	}
	return got[0]
}

// settled is m as it is read: prefixes in order, others Partial.
func settled(m notice.Message) notice.Message {
	if m.Type != frame.Update {
		return m
	}
	inOrder := func(l []api.Prefix) []api.Prefix {
		l = slices.Clone(l)
		slices.SortFunc(l, prefix.Compare)
		return slices.Compact(l)
	}
	u := m.Update
	u.Announced = inOrder(u.Announced)
	u.Withdrawn = slices.DeleteFunc(inOrder(u.Withdrawn), func(p api.Prefix) bool { return slices.Contains(u.Announced, p) })
	u.Attrs.Others = slices.Clone(u.Attrs.Others)
	for k := range u.Attrs.Others {
		u.Attrs.Others[k].Flags |= 0x20
	}
	if len(u.Announced) == 0 {
		u.Attrs = attrs.Attrs{}
	}
	m.Update = u
	return m
}

// wantBack has m's bytes taken in and read as what it was.
func wantBack(t *testing.T, m notice.Message, s update.Session, chunk int) {
	t.Helper()
	b, e := notice.Bytes(m, s.Four)
	if e != api.OK || len(b) > api.MaxMessage {
		t.Fatalf("Bytes(%s): %d bytes, %d", shown(m), len(b), e)
	}
	wantMessage(t, taken(t, b, chunk), s, settled(m))
}

// octets makes up to most bytes of draw.
func octets(draw func(n int) int, most int) []byte {
	b := make([]byte, draw(most+1))
	for k := range b {
		b[k] = byte(draw(256))
	}
	return b
}

// wide is a number of four bytes of draw, rather often an edge.
func wide(draw func(n int) int) uint32 {
	edges := []uint32{0, 1, 23456, 65535, 65536, 1<<32 - 1}
	if k := draw(len(edges) + 6); k < len(edges) {
		return edges[k]
	}
	return uint32(draw(1<<16))<<16 | uint32(draw(1<<16))
}

// drawnOpen is an OPEN of version 4.
func drawnOpen(draw func(n int) int) open.Open {
	o := open.Open{Version: 4, AS: uint16(wide(draw)), Hold: uint16(wide(draw)), Id: api.IP(wide(draw))}
	for range draw(5) {
		o.Caps = append(o.Caps, caps.Cap{Code: byte(draw(256)), Value: octets(draw, 40)})
	}
	return o
}

// drawnPrefixes is a row of prefixes, some of them alike.
func drawnPrefixes(draw func(n int) int, most int) []api.Prefix {
	var l []api.Prefix
	for range draw(most + 1) {
		bits := draw(33)
		ip := uint64(wide(draw)) >> (32 - bits) << (32 - bits)
		l = append(l, api.Prefix{IP: api.IP(ip), Bits: bits})
		if draw(4) == 0 {
			l = append(l, l[draw(len(l))])
		}
	}
	return l
}

// drawnUpdate is an update that is right in a session with Pref or without.
func drawnUpdate(draw func(n int) int, pref bool) update.Update {
	u := update.Update{Withdrawn: drawnPrefixes(draw, 6), Announced: drawnPrefixes(draw, 6)}
	if len(u.Announced) == 0 {
		return u
	}
	var p path.Path
	for k := range draw(4) {
		s := path.Segment{Kind: []byte{path.Set, path.Sequence}[(k+draw(2))%2]}
		for range 1 + draw(5) {
			s.Numbers = append(s.Numbers, api.AS(wide(draw)|1))
		}
		p = append(p, s)
	}
	u.Attrs = attrs.Attrs{
		Has:     1<<attrs.Origin | 1<<attrs.Path | 1<<attrs.NextHop,
		Origin:  byte(draw(3)),
		Path:    p,
		NextHop: 0x0a000000 | api.IP(draw(1<<16)),
	}
	if pref {
		u.Attrs.Has |= 1 << attrs.Pref
		u.Attrs.Pref = wide(draw)
	}
	if draw(2) == 0 {
		u.Attrs.Has |= 1 << attrs.Med
		u.Attrs.Med = wide(draw)
	}
	for k := range draw(3) {
		u.Attrs.Others = append(u.Attrs.Others, attrs.Other{Flags: 0xc0 | byte(draw(2))<<5, Type: byte(20 + k), Value: octets(draw, 300)})
	}
	return u
}

// drawnMessage is a message of that type, with what the type has alone.
func drawnMessage(draw func(n int) int, kind byte, pref bool) notice.Message {
	m := notice.Message{Type: kind}
	switch kind {
	case frame.Open:
		m.Open = drawnOpen(draw)
	case frame.Update:
		m.Update = drawnUpdate(draw, pref)
	case frame.Notification:
		m.Notice = noticeOf(byte(draw(256)), byte(draw(256)), octets(draw, 4075)...)
	case frame.Refresh:
		m.Refresh = notice.Refresh{Family: uint16(wide(draw)), Sub: byte(draw(256))}
	}
	return m
}

// TestThereAndBack: drawn messages of each type (P12.4).
func TestThereAndBack(t *testing.T) {
	draw := draws(12)
	for range 300 {
		for _, kind := range allTypes() {
			s := update.Session{Four: draw(2) == 0, Outside: draw(2) == 0}
			s.Pref = !s.Outside
			wantBack(t, drawnMessage(draw, kind, s.Pref), s, 1+draw(300))
		}
	}
}

// TestThereAndBackOfEdges: the shortest and the longest messages, whose prefixes
// stand in order (P12.4).
func TestThereAndBackOfEdges(t *testing.T) {
	for _, four := range []bool{false, true} {
		s := update.Session{Four: four, Outside: true}
		for _, m := range []notice.Message{
			{Type: frame.Open, Open: open.Open{Version: 4}},
			{Type: frame.Open, Open: opened()},
			{Type: frame.Open, Open: open.Open{Version: 4, AS: 65535, Hold: 65535, Id: 1<<32 - 1, Caps: []caps.Cap{{Code: 255, Value: make([]byte, 251)}}}},
			{Type: frame.Update},
			{Type: frame.Update, Update: told(t)},
			{Type: frame.Notification},
			{Type: frame.Notification, Notice: noticeOf(6, 2, 7)},
			{Type: frame.Notification, Notice: noticeOf(255, 255, make([]byte, 4075)...)},
			{Type: frame.Keepalive},
			{Type: frame.Refresh},
			{Type: frame.Refresh, Refresh: notice.Refresh{Family: 65535, Sub: 255}},
		} {
			for _, chunk := range []int{1, 19, 4096} {
				wantBack(t, m, s, chunk)
			}
		}
	}
}

// TestThereAndBackOfAll: one behind the other, in one stream (P12.4).
func TestThereAndBackOfAll(t *testing.T) {
	draw, s := draws(5), update.Session{Four: true, Outside: true}
	var all []notice.Message
	var stream []byte
	for range 40 {
		m := drawnMessage(draw, byte(1+draw(5)), false)
		b, e := notice.Bytes(m, true)
		if e != api.OK {
			t.Fatal(shown(m), e)
		}
		all, stream = append(all, m), append(stream, b...)
	}
	in := frame.New()
	var got []frame.Message
	for c := range slices.Chunk(stream, 77) {
		got = append(got, in.Feed(c)...)
	}
	if len(got) != len(all) {
		t.Fatalf("%d messages, want %d", len(got), len(all))
	}
	for k, f := range got {
		wantMessage(t, f, s, settled(all[k]))
	}
}

// TestWhateverComes: each body of each type is a message of that type, or a
// notice that has a fault, and never both; and what is read can be told again,
// with the same fault (P12.1, P12.5).
func TestWhateverComes(t *testing.T) {
	draw := draws(77)
	for range 40000 {
		f := frame.Message{Type: byte(draw(7)), Body: octets(draw, 24)}
		s := sessions()[draw(8)]
		m, n := notice.Read(f, s)
		wrong := n.Fault != (api.Fault{})
		if !wrong && (m.Type != f.Type || len(n.Data) != 0) || wrong && !same(m, notice.Message{}) {
			t.Fatalf("Read(%s): %s, %s", shown(f), shown(m), shown(n))
		}
		plain := m
		plain.Class = 0
		if !same(plain, only(m)) {
			t.Fatalf("Read(%s) has what the type has not: %s", shown(f), shown(m))
		}
		if wrong {
			wantTold(t, n)
		}
	}
}

// wantTold has a notice told to a peer, and read there, as the same; so is the
// text of its fault (P12.5).
func wantTold(t *testing.T, n notice.Notice) {
	t.Helper()
	b, e := notice.Bytes(notice.Message{Type: frame.Notification, Notice: n}, false)
	if e != api.OK {
		t.Fatal(shown(n), e)
	}
	m, wrong := notice.Read(taken(t, b, 4096), update.Session{})
	text := notice.Text(m.Notice.Fault)
	f, e := notice.Parse(text)
	if wrong.Fault != (api.Fault{}) || !same(m.Notice, n) || f != n.Fault || e != api.OK {
		t.Fatalf("%s is read as %s, %s, text %q: %v, %d", shown(n), shown(m), shown(wrong), text, f, e)
	}
}

// TestFaultsToldAndRead: all of them, with their texts (P12.5).
func TestFaultsToldAndRead(t *testing.T) {
	for code := range 256 {
		for sub := 0; sub < 256; sub += 3 {
			wantTold(t, noticeOf(byte(code), byte(sub), byte(sub), byte(code)))
		}
	}
}

// TestReadHasJustWhatTheTypeHas: the rest of the message is zero.
func TestReadHasJustWhatTheTypeHas(t *testing.T) {
	for _, kind := range allTypes() {
		b, e := notice.Bytes(full(t, kind), true)
		if e != api.OK {
			t.Fatal(kind, e)
		}
		m, n := notice.Read(taken(t, b, 100), update.Session{Four: true, Outside: true})
		if want := settled(only(full(t, kind))); !same(m, want) || !same(n, notice.Notice{}) {
			t.Errorf("type %d: %s, %s, want %s", kind, shown(m), shown(n), shown(want))
		}
		if !bytes.Equal(b, whole(kind, bodyOf(t, kind, true))) {
			t.Errorf("type %d: % x", kind, b)
		}
	}
}
