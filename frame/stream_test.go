package frame_test

import (
	"bytes"
	"slices"
	"testing"

	"consulate/api"
	"consulate/frame"
)

// outcome is all that an intake told of a stream.
type outcome struct {
	told  []frame.Message
	fault api.Fault
	data  []byte
	waits int
}

func (o *outcome) same(p *outcome) bool {
	one := func(m, n frame.Message) bool { return m.Type == n.Type && bytes.Equal(m.Body, n.Body) }
	return slices.EqualFunc(o.told, p.told, one) && o.fault == p.fault && bytes.Equal(o.data, p.data) && o.waits == p.waits
}

// model tells what the chapter says of a stream that is all there.
func model(b []byte) *outcome {
	o := &outcome{}
	for len(b) >= 19 {
		length, kind := int(b[16])*256+int(b[17]), b[18]
		l, is := lengths[kind]
		size := []byte{b[16], b[17]}
		switch {
		case string(b[:16]) != "\xff\xff\xff\xff\xff\xff\xff\xff\xff\xff\xff\xff\xff\xff\xff\xff":
			o.fault = api.Fault{Code: 1, Sub: 1}
		case length < 19 || length > 4096:
			o.fault, o.data = api.Fault{Code: 1, Sub: 2}, size
		case !is:
			o.fault, o.data = api.Fault{Code: 1, Sub: 3}, []byte{kind}
		case length < l.least || length > l.most:
			o.fault, o.data = api.Fault{Code: 1, Sub: 2}, size
		}
		if o.fault != (api.Fault{}) {
			return o
		}
		if length > len(b) {
			break
		}
		o.told = append(o.told, frame.Message{Type: kind, Body: b[19:length]})
		b = b[length:]
	}
	o.waits = len(b)
	return o
}

// play feeds the stream in chunks whose sizes next tells, and holds what is
// told on the way against what the bytes that came so far come to.
func play(t *testing.T, b []byte, next func() int) *outcome {
	t.Helper()
	i := frame.New()
	o := &outcome{}
	for at := 0; at < len(b); {
		n := min(next(), len(b)-at)
		o.told = append(o.told, i.Feed(b[at:at+n])...)
		at += n
		o.fault, o.data = i.Fault()
		o.waits = i.Waits()
		if at < 200 || at == len(b) {
			if want := model(b[:at]); !o.same(want) {
				t.Fatalf("behind %d bytes of % x: %v, want %v", at, b, o, want)
			}
		}
	}
	return o
}

func chunksOf(n int) func() int { return func() int { return n } }

// draws makes numbers below n that only look like chance.
func draws(seed uint32) func(n int) int {
	return func(n int) int {
		seed = seed*1664525 + 1013904223
		return int(seed>>8) % n
	}
}

// grow makes a stream of messages, now and then with a byte that is another
// one, or cut short.
func grow(draw func(int) int) []byte {
	var b []byte
	for range draw(6) {
		kind := byte(1 + draw(5))
		length := lengths[kind].least
		if lengths[kind].most > length {
			length += draw(40)
		}
		b = append(b, whole(length, kind)...)
	}
	if len(b) > 0 && draw(2) == 0 {
		b[draw(len(b))] = byte(draw(256))
	}
	return b[:len(b)-draw(len(b)/2+1)]
}

// TestAnyChunks: P3.3.
func TestAnyChunks(t *testing.T) {
	draw := draws(1)
	faults, waits := 0, 0
	for range 2000 {
		b := grow(draw)
		if len(b) == 0 {
			continue
		}
		want := play(t, b, chunksOf(len(b)))
		for _, next := range []func() int{
			chunksOf(1), chunksOf(2), chunksOf(18), chunksOf(19), chunksOf(20),
			func() int { return draw(4) }, func() int { return draw(60) },
		} {
			if got := play(t, b, next); !got.same(want) {
				t.Fatalf("% x in chunks: %v, want %v", b, got, want)
			}
		}
		if want.fault.Code > 0 {
			faults++
		}
		if want.waits > 0 {
			waits++
		}
	}
	if faults < 200 || waits < 200 {
		t.Errorf("%d streams had a fault, %d had bytes that wait: too few to tell", faults, waits)
	}
}

// TestEveryCut parts one stream into three in every way (P3.3).
func TestEveryCut(t *testing.T) {
	for _, b := range [][]byte{
		slices.Concat(raw(19, 4), whole(21, 3), whole(23, 5), raw(19, 4)),
		slices.Concat(whole(24, 2), raw(28, 1), raw(19, 4)),
		slices.Concat(raw(19, 4), raw(19, 4), make([]byte, 30)),
	} {
		for first := range len(b) + 1 {
			for second := range len(b) - first + 1 {
				sizes := []int{first, second, len(b)}
				play(t, b, func() int {
					n := sizes[0]
					sizes = sizes[1:]
					return n
				})
			}
		}
	}
}

// TestLongMessagesInChunks: the greatest messages, and more of them than one
// feed brings.
func TestLongMessagesInChunks(t *testing.T) {
	b := slices.Concat(whole(4096, 2), whole(4095, 1), whole(4096, 3), raw(19, 4), whole(4096, 2)[:4095])
	want := model(b)
	if len(want.told) != 4 || want.waits != 4095 {
		t.Fatal("the model", len(want.told), want.waits)
	}
	for _, n := range []int{1, 7, 4095, 4096, 4097, len(b)} {
		if got := play(t, b, chunksOf(n)); !got.same(want) {
			t.Error("in chunks of", n)
		}
	}
	many := bytes.Repeat(b[:4096+4095+4096+19], 100)
	if got := play(t, many, chunksOf(len(many))); len(got.told) != 400 || got.waits != 0 {
		t.Error("many at once", len(got.told), got.waits)
	}
}

// forms lays messages one behind the other.
func forms(t *testing.T, l []frame.Message) []byte {
	t.Helper()
	var b []byte
	for _, m := range l {
		one, e := m.Bytes()
		if e != api.OK {
			t.Fatalf("type %d, body of %d: %d", m.Type, len(m.Body), e)
		}
		b = append(b, one...)
	}
	return b
}

// TestThereAndBack: P3.4 of every length that a type has, one by one and all
// in one stream.
func TestThereAndBack(t *testing.T) {
	for kind, l := range lengths {
		var all []frame.Message
		for length := l.least; length <= min(l.most, api.MaxMessage); length++ {
			m := frame.Message{Type: kind, Body: fill(length - 19)}
			i := frame.New()
			wantTold(t, "one", i.Feed(forms(t, []frame.Message{m})), m)
			wantWaits(t, "one", i, 0)
			if length < 300 || length > 4000 {
				all = append(all, m)
			}
		}
		i := frame.New()
		wantTold(t, "all", i.Feed(forms(t, all)), all...)
		wantWaits(t, "all", i, 0)
	}
}

// TestTheBytesThatCame: P3.5. What is told are the bytes that came, whatever
// they were: forms, and then what waits, or what brought the fault.
func TestTheBytesThatCame(t *testing.T) {
	draw := draws(7)
	for range 5000 {
		b := grow(draw)
		i := frame.New()
		var told []frame.Message
		for at := 0; at < len(b); {
			n := min(1+draw(50), len(b)-at)
			told = append(told, i.Feed(b[at:at+n])...)
			at += n
		}
		laid := forms(t, told)
		if !bytes.HasPrefix(b, laid) {
			t.Fatalf("% x: told % x", b, laid)
		}
		left := b[len(laid):]
		if f, _ := i.Fault(); f == (api.Fault{}) {
			if i.Waits() != len(left) {
				t.Fatalf("% x: %d wait, and %d are left", b, i.Waits(), len(left))
			}
		} else if len(left) < 19 || i.Waits() != 0 {
			t.Fatalf("% x: a fault of %d bytes, %d wait", b, len(left), i.Waits())
		}
	}
}
