package frame_test

import (
	"bytes"
	"slices"
	"testing"

	"consulate/api"
	"consulate/frame"
)

func wantTold(t *testing.T, what string, got []frame.Message, want ...frame.Message) {
	t.Helper()
	same := func(m, n frame.Message) bool { return m.Type == n.Type && bytes.Equal(m.Body, n.Body) }
	if !slices.EqualFunc(got, want, same) {
		t.Errorf("%s: told %v, want %v", what, got, want)
	}
}

func wantFault(t *testing.T, what string, i *frame.Intake, code, sub byte, data ...byte) {
	t.Helper()
	f, d := i.Fault()
	if f != (api.Fault{Code: code, Sub: sub}) || !bytes.Equal(d, data) {
		t.Errorf("%s: fault %v, data % x, want %d, %d, % x", what, f, d, code, sub, data)
	}
}

// wantWaits is for an intake without a fault.
func wantWaits(t *testing.T, what string, i *frame.Intake, n int) {
	t.Helper()
	wantFault(t, what, i, 0, 0)
	if i.Waits() != n {
		t.Errorf("%s: %d wait, want %d", what, i.Waits(), n)
	}
}

// wantEnded feeds a whole message behind a fault: it comes to nothing.
func wantEnded(t *testing.T, what string, i *frame.Intake, code, sub byte, data ...byte) {
	t.Helper()
	for _, b := range [][]byte{nil, {0xff}, raw(19, 4), whole(30, 1), make([]byte, 40)} {
		wantFault(t, what, i, code, sub, data...)
		if i.Waits() != 0 {
			t.Errorf("%s: %d wait behind a fault", what, i.Waits())
		}
		wantTold(t, what+", behind the fault", i.Feed(b))
	}
	wantFault(t, what+", at last", i, code, sub, data...)
}

func TestIntakeWithoutBytes(t *testing.T) {
	i := frame.New()
	wantWaits(t, "New", i, 0)
	wantTold(t, "Feed of nil", i.Feed(nil))
	wantTold(t, "Feed of nothing", i.Feed([]byte{}))
	wantWaits(t, "fed nothing", i, 0)
}

func TestExamples(t *testing.T) {
	i := frame.New()
	wantTold(t, "Keepalive", i.Feed(raw(0x13, 4)), frame.Message{Type: frame.Keepalive})
	wantWaits(t, "Keepalive", i, 0)

	i = frame.New()
	wantTold(t, "Keepalive of 20", i.Feed(raw(0x14, 4)))
	wantEnded(t, "Keepalive of 20", i, 1, 2, 0, 0x14)

	i = frame.New()
	wantTold(t, "18 bytes", i.Feed(bytes.Repeat([]byte{0xff}, 18)))
	wantWaits(t, "18 bytes", i, 18)

	i = frame.New()
	wantTold(t, "19 bytes", i.Feed(make([]byte, 19)))
	wantEnded(t, "19 bytes", i, 1, 1)
}

func TestMessagesOneByOne(t *testing.T) {
	i := frame.New()
	i.Feed(nil)
	wantTold(t, "two, and a bit", i.Feed(slices.Concat(raw(19, 4), raw(22, 3, 6, 2, 7), []byte{0xff, 0xff})),
		frame.Message{Type: 4}, frame.Message{Type: 3, Body: []byte{6, 2, 7}})
	wantWaits(t, "a bit", i, 2)
	wantTold(t, "a bit more", i.Feed(raw(23, 5)[2:]))
	wantWaits(t, "a head", i, 19)
	wantTold(t, "three of four", i.Feed([]byte{0, 1, 0}))
	wantWaits(t, "but one", i, 22)
	wantTold(t, "the last one", i.Feed([]byte{1, 0xff}), frame.Message{Type: 5, Body: []byte{0, 1, 0, 1}})
	wantWaits(t, "the next one begins", i, 1)
}

// TestNothingIsJudgedAheadOfTheHead: bytes that can come to nothing wait all
// the same, until 19 are there.
func TestNothingIsJudgedAheadOfTheHead(t *testing.T) {
	wrong := slices.Concat(make([]byte, 16), []byte{0, 0, 0})
	for n := range 19 {
		i := frame.New()
		wantTold(t, "cut", i.Feed(wrong[:n]))
		wantWaits(t, "cut", i, n)
		wantTold(t, "then all", i.Feed(wrong[n:]))
		wantEnded(t, "then all", i, 1, 1)
	}
}

// TestTheBodyIsNotWaitedFor: the head alone brings the fault.
func TestTheBodyIsNotWaitedFor(t *testing.T) {
	i := frame.New()
	wantTold(t, "head", i.Feed(raw(4097, 2)))
	wantEnded(t, "head", i, 1, 2, 0x10, 0x01)
	i = frame.New()
	wantTold(t, "head", i.Feed(raw(1000, 9)))
	wantEnded(t, "head", i, 1, 3, 9)
}

func TestEachMarkerByteCounts(t *testing.T) {
	for at := range 16 {
		for _, other := range []byte{0, 1, 0x7f, 0xfe} {
			b := raw(19, 4)
			b[at] = other
			i := frame.New()
			wantTold(t, "marker", i.Feed(b))
			wantEnded(t, "marker", i, 1, 1)
		}
	}
}

// TestFaultsInTheirOrder: of several things that are wrong the first counts.
func TestFaultsInTheirOrder(t *testing.T) {
	for _, c := range []struct {
		what string
		b    []byte
		sub  byte
		data []byte
	}{
		{"marker, length and type", append(make([]byte, 16), 0, 0, 9), 1, nil},
		{"marker and type", append(make([]byte, 16), 0, 19, 9), 1, nil},
		{"marker and the type's length", append(make([]byte, 16), 0, 20, 4), 1, nil},
		{"length below and type", raw(18, 0), 2, []byte{0, 18}},
		{"length above and type", raw(4097, 6), 2, []byte{0x10, 1}},
		{"the greatest length", raw(65535, 255), 2, []byte{0xff, 0xff}},
		{"type alone", raw(19, 0), 3, []byte{0}},
		{"type, with the greatest length", raw(4096, 255), 3, []byte{255}},
	} {
		i := frame.New()
		wantTold(t, c.what, i.Feed(c.b))
		wantEnded(t, c.what, i, 1, c.sub, c.data...)
	}
}

// TestEveryLengthOfEveryType holds each head that has its markers against the
// chapter's rows.
func TestEveryLengthOfEveryType(t *testing.T) {
	kinds := []byte{0, 1, 2, 3, 4, 5, 6, 255}
	for length := range 65536 {
		for _, kind := range kinds {
			i := frame.New()
			told := i.Feed(raw(length, kind))
			size := []byte{byte(length >> 8), byte(length)}
			l, is := lengths[kind]
			switch {
			case length < 19 || length > 4096:
				wantFault(t, "length", i, 1, 2, size...)
			case !is:
				wantFault(t, "type", i, 1, 3, kind)
			case length < l.least || length > l.most:
				wantFault(t, "type's length", i, 1, 2, size...)
			case length == 19:
				wantWaits(t, "whole", i, 0)
				wantTold(t, "whole", told, frame.Message{Type: kind})
				continue
			default:
				wantWaits(t, "head", i, 19)
			}
			wantTold(t, "head", told)
		}
		if t.Failed() {
			t.Fatal("length", length)
		}
	}
}

func TestEveryType(t *testing.T) {
	for kind := range 256 {
		i := frame.New()
		told := i.Feed(whole(23, byte(kind)))
		switch kind {
		case frame.Update, frame.Notification, frame.Refresh:
			wantTold(t, "of 23", told, frame.Message{Type: byte(kind), Body: fill(4)})
			wantWaits(t, "of 23", i, 0)
		case frame.Open, frame.Keepalive:
			wantTold(t, "of 23", told)
			wantEnded(t, "of 23", i, 1, 2, 0, 23)
		default:
			wantTold(t, "of 23", told)
			wantEnded(t, "of 23", i, 1, 3, byte(kind))
		}
	}
}

func TestMessagesAheadOfAFault(t *testing.T) {
	i := frame.New()
	wantTold(t, "ahead", i.Feed(slices.Concat(raw(19, 4), whole(21, 3), raw(19, 8), raw(19, 4))),
		frame.Message{Type: 4}, frame.Message{Type: 3, Body: fill(2)})
	wantEnded(t, "ahead", i, 1, 3, 8)
}

func TestIntakeThatNewDidNotMake(t *testing.T) {
	var none *frame.Intake
	for _, i := range []*frame.Intake{none, {}, new(frame.Intake)} {
		for _, b := range [][]byte{nil, {1}, raw(19, 4), make([]byte, 19)} {
			wantTold(t, "not made", i.Feed(b))
			wantWaits(t, "not made", i, 0)
		}
		if i.Copy() != nil {
			t.Error("a copy of an intake that New did not make")
		}
	}
}

// TestCopyLivesApart feeds an intake and its copy by turns: bytes that one of
// them gathers must never lie where the other one's do.
func TestCopyLivesApart(t *testing.T) {
	b := whole(60, 2)
	for n := range len(b) - 1 {
		i := frame.New()
		i.Feed(b[:n])
		c := i.Copy()
		wantWaits(t, "copy", c, n)
		wantTold(t, "the first one, not whole", i.Feed(b[n:59]))
		wantWaits(t, "the copy stays", c, n)
		other := slices.Clone(b)
		other[58], other[59] = 88, 99
		wantTold(t, "the copy", c.Feed(other[n:]), frame.Message{Type: 2, Body: other[19:]})
		wantWaits(t, "the first one stays", i, 59)
		wantTold(t, "the first one", i.Feed(b[59:]), frame.Message{Type: 2, Body: fill(41)})
		wantTold(t, "a fault of the copy", c.Feed(make([]byte, 19)))
		wantFault(t, "a fault of the copy", c, 1, 1)
		wantWaits(t, "the first one has none", i, 0)
	}
}

func TestCopyHasTheFault(t *testing.T) {
	i := frame.New()
	i.Feed(raw(18, 4))
	c := i.Copy()
	_, d := c.Fault()
	d[0], d[1] = 7, 7
	wantEnded(t, "copy", c, 1, 2, 0, 18)
	wantEnded(t, "the first one", i, 1, 2, 0, 18)
}

func TestIntakeSharesNoMemory(t *testing.T) {
	b := slices.Concat(whole(30, 1), whole(25, 2), raw(30, 3))
	was := slices.Clone(b)
	i := frame.New()
	told := i.Feed(b)
	if !bytes.Equal(b, was) {
		t.Error("what was handed in was changed")
	}
	clear(b)
	clear(told[1].Body)
	_ = append(told[0].Body, 1, 2, 3, 4)
	wantTold(t, "bodies are their own", told, frame.Message{Type: 1, Body: fill(11)}, frame.Message{Type: 2, Body: make([]byte, 6)})
	wantTold(t, "what was handed in is not kept", i.Feed(fill(11)), frame.Message{Type: 3, Body: fill(11)})
	told = i.Feed(whole(30, 3))
	i.Feed(bytes.Repeat([]byte{0xff}, 200))
	wantTold(t, "what was told stays", told, frame.Message{Type: 3, Body: fill(11)})

	_, d := i.Fault()
	clear(d)
	wantFault(t, "data are new each time", i, 1, 2, 0xff, 0xff)
}
