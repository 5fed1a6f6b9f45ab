package scroll_test

import (
	"testing"

	"consulate/api"
	"consulate/scroll"
)

// model is a reader told in the chapter's words, without the package's means:
// ends[0] is the end of all.
type model struct {
	b    []byte
	at   int
	ends []int
	err  api.Errno
}

func (m *model) end() int { return m.ends[len(m.ends)-1] }

func (m *model) face() face {
	f := face{deep: len(m.ends) - 1, at: m.at, err: m.err}
	if m.err == api.OK {
		f.left = m.end() - m.at
	}
	return f
}

func (m *model) take(n int) []byte {
	if m.err != api.OK {
		return nil
	}
	if n < 0 || m.at+n > m.end() {
		m.err = api.ErrShort
		return nil
	}
	m.at += n
	return m.b[m.at-n : m.at]
}

func (m *model) number(n int) uint32 {
	var sum uint32
	for _, b := range m.take(n) {
		sum = sum*256 + uint32(b)
	}
	return sum
}

func (m *model) open(n int) {
	switch {
	case m.err != api.OK:
	case n < 0 || m.at+n > m.end():
		m.err = api.ErrShort
	default:
		m.ends = append(m.ends, m.at+n)
	}
}

func (m *model) close(skip bool) {
	switch {
	case m.err != api.OK:
	case len(m.ends) == 1:
		m.err = api.ErrUse
	case !skip && m.at < m.end():
		m.err = api.ErrForm
	default:
		m.at = m.end()
		m.ends = m.ends[:len(m.ends)-1]
	}
}

func (m *model) fail(e api.Errno) {
	if m.err == api.OK {
		m.err = e
	}
}

// steps do one thing to a reader and to its model, and tell whether both
// answered the same.
func steps() []func(r *scroll.Reader, m *model) bool {
	l := []func(r *scroll.Reader, m *model) bool{
		func(r *scroll.Reader, m *model) bool { return uint32(r.Byte()) == m.number(1) },
		func(r *scroll.Reader, m *model) bool { return uint32(r.Two()) == m.number(2) },
		func(r *scroll.Reader, m *model) bool { return r.Four() == m.number(4) },
		func(r *scroll.Reader, m *model) bool { return string(r.Rest()) == string(m.take(m.face().left)) },
		func(r *scroll.Reader, m *model) bool { r.Close(); m.close(false); return true },
		func(r *scroll.Reader, m *model) bool { r.Skip(); m.close(true); return true },
		func(r *scroll.Reader, m *model) bool { r.Fail(api.OK); m.fail(api.OK); return true },
		func(r *scroll.Reader, m *model) bool { r.Fail(api.ErrName); m.fail(api.ErrName); return true },
	}
	for _, n := range []int{-1, 0, 1, 3} {
		l = append(l,
			func(r *scroll.Reader, m *model) bool { return string(r.Take(n)) == string(m.take(n)) },
			func(r *scroll.Reader, m *model) bool { r.Open(n); m.open(n); return true })
	}
	return l
}

// TestWhateverIsCalled plays every row of five steps (P1.5, and P1.1, P1.2 by
// the model).
func TestWhateverIsCalled(t *testing.T) {
	b := []byte{11, 12, 13, 14, 15}
	all := steps()
	rows := 1
	for range 5 {
		rows *= len(all)
	}
	for row := range rows {
		r, m := scroll.New(b), &model{b: b, ends: []int{len(b)}}
		for left, i := row, 0; i < 5; i++ {
			step := all[left%len(all)]
			left /= len(all)
			was, end := r.At(), m.end()
			same := step(r, m)
			if r.At() < was || r.At() > end {
				t.Fatalf("row %d, step %d: from %d to %d, with the block's end at %d", row, i, was, r.At(), end)
			}
			if !same || look(r) != m.face() {
				t.Fatalf("row %d, step %d: %v, want %v", row, i, look(r), m.face())
			}
		}
	}
}

// part is something laid: a number of wide bytes, or, with parts, a block
// behind a hold of wide bytes.
type part struct {
	wide   int
	number uint32
	block  bool
	parts  []part
}

func lay(w *scroll.Writer, l []part) {
	for _, p := range l {
		switch {
		case p.block:
			w.Hold(p.wide)
			lay(w, p.parts)
			w.Fill()
		case p.wide == 1:
			w.Byte(byte(p.number))
		case p.wide == 2:
			w.Two(uint16(p.number))
		default:
			w.Four(p.number)
		}
	}
}

func readNumber(r *scroll.Reader, wide int) uint32 {
	switch wide {
	case 1:
		return uint32(r.Byte())
	case 2:
		return uint32(r.Two())
	}
	return r.Four()
}

func read(t *testing.T, r *scroll.Reader, l []part) {
	t.Helper()
	for _, p := range l {
		n := readNumber(r, p.wide)
		if p.block {
			r.Open(int(n))
			read(t, r, p.parts)
			r.Close()
		} else if n != p.number {
			t.Fatalf("read %x, laid %x", n, p.number)
		}
	}
}

// grow makes parts out of a row of numbers that only looks like chance.
func grow(seed *uint32, deep int) []part {
	draw := func(n uint32) int {
		*seed = *seed*1664525 + 1013904223
		return int((*seed >> 8) % n)
	}
	var l []part
	for range draw(4) {
		if deep > 0 && draw(2) == 0 {
			l = append(l, part{wide: 1 + draw(2), block: true, parts: grow(seed, deep-1)})
			continue
		}
		wide := []int{1, 2, 4}[draw(3)]
		l = append(l, part{wide: wide, number: (*seed ^ *seed<<16) >> (32 - 8*wide)})
	}
	return l
}

// TestThereAndBack: P1.4. A few of the rows that grow have more than a hold of
// one byte can tell: these are passed over.
func TestThereAndBack(t *testing.T) {
	seed, played := uint32(1), 0
	for range 3000 {
		l := grow(&seed, 4)
		w := scroll.Lay()
		lay(w, l)
		b, e := w.Done()
		if e == api.ErrLong {
			continue
		}
		if e != api.OK || len(b) != w.Len() {
			t.Fatal(e, len(b), w.Len())
		}
		r := scroll.New(b)
		read(t, r, l)
		wantFace(t, "read to the end", r, face{at: len(b)})
		played++
	}
	if played < 2500 {
		t.Errorf("only %d rows were played", played)
	}
}

func TestThereAndBackDeep(t *testing.T) {
	const deep = 20000 // with 3 bytes a level, what a hold of two bytes can still tell
	w := scroll.Lay()
	for i := range deep {
		w.Byte(byte(i)).Hold(2)
	}
	w.Byte(200)
	for range deep {
		w.Fill()
	}
	b, e := w.Done()
	if e != api.OK {
		t.Fatal(e)
	}
	r := scroll.New(b)
	for i := range deep {
		if r.Byte() != byte(i) {
			t.Fatal("level", i)
		}
		r.Open(int(r.Two()))
	}
	if r.Byte() != 200 || r.Deep() != deep {
		t.Error("innermost", r.Deep())
	}
	for range deep {
		r.Close()
	}
	wantFace(t, "closed", r, face{at: len(b)})
}
