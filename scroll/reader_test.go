package scroll_test

import (
	"bytes"
	"math"
	"testing"

	"consulate/api"
	"consulate/scroll"
)

// face is all that a reader tells of itself.
type face struct {
	left, deep, at int
	err            api.Errno
}

func look(r *scroll.Reader) face {
	return face{r.Left(), r.Deep(), r.At(), r.Err()}
}

func wantFace(t *testing.T, what string, r *scroll.Reader, want face) {
	t.Helper()
	if got := look(r); got != want {
		t.Errorf("%s: left, deep, at, err are %v, want %v", what, got, want)
	}
}

func wantBytes(t *testing.T, what string, got, want []byte) {
	t.Helper()
	if !bytes.Equal(got, want) {
		t.Errorf("%s: got %v, want %v", what, got, want)
	}
}

// wantStill holds r against want after each call that could change it.
func wantStill(t *testing.T, r *scroll.Reader, want face) {
	t.Helper()
	if n := r.Byte(); n != 0 {
		t.Errorf("Byte took %d", n)
	}
	if n := r.Two(); n != 0 {
		t.Errorf("Two took %d", n)
	}
	if n := r.Four(); n != 0 {
		t.Errorf("Four took %d", n)
	}
	for _, n := range []int{-1, 0, 1, 2, math.MaxInt, math.MinInt} {
		wantBytes(t, "Take", r.Take(n), nil)
		r.Open(n)
	}
	wantBytes(t, "Rest", r.Rest(), nil)
	wantFace(t, "behind Take, Rest and Open", r, want)
	r.Close()
	wantFace(t, "behind Close", r, want)
	r.Skip()
	wantFace(t, "behind Skip", r, want)
	r.Fail(api.OK)
	r.Fail(api.ErrRange)
	wantFace(t, "behind Fail", r, want)
}

func TestNumbersAreReadInOrder(t *testing.T) {
	r := scroll.New([]byte{0xff, 0x80, 0x01, 0xfe, 0xdc, 0xba, 0x98, 5, 6, 7})
	wantFace(t, "New", r, face{left: 10})
	if n := r.Byte(); n != 0xff {
		t.Errorf("Byte: %x", n)
	}
	if n := r.Two(); n != 0x8001 {
		t.Errorf("Two: %x", n)
	}
	if n := r.Four(); n != 0xfedcba98 {
		t.Errorf("Four: %x", n)
	}
	wantFace(t, "behind numbers", r, face{left: 3, at: 7})
	wantBytes(t, "Take", r.Take(2), []byte{5, 6})
	wantBytes(t, "Take of none", r.Take(0), nil)
	wantFace(t, "behind Take", r, face{left: 1, at: 9})
	wantBytes(t, "Rest", r.Rest(), []byte{7})
	wantBytes(t, "Rest again", r.Rest(), nil)
	wantBytes(t, "Take of none at the end", r.Take(0), nil)
	wantFace(t, "at the end", r, face{at: 10})
}

func TestExactlyEnoughIsEnough(t *testing.T) {
	if r := scroll.New([]byte{1}); r.Byte() != 1 || r.Err() != api.OK {
		t.Error("Byte of one")
	}
	if r := scroll.New([]byte{1, 2}); r.Two() != 0x0102 || r.Err() != api.OK {
		t.Error("Two of two")
	}
	if r := scroll.New([]byte{1, 2, 3, 4}); r.Four() != 0x01020304 || r.Err() != api.OK {
		t.Error("Four of four")
	}
	r := scroll.New([]byte{1, 2, 3})
	wantBytes(t, "Take of all", r.Take(3), []byte{1, 2, 3})
	wantFace(t, "behind all", r, face{at: 3})
}

func TestTooFewLeftIsShort(t *testing.T) {
	calls := []struct {
		name string
		left int
		call func(r *scroll.Reader)
	}{
		{"Byte", 0, func(r *scroll.Reader) { r.Byte() }},
		{"Two", 1, func(r *scroll.Reader) { r.Two() }},
		{"Four", 3, func(r *scroll.Reader) { r.Four() }},
		{"Take", 3, func(r *scroll.Reader) { wantBytes(t, "Take(4)", r.Take(4), nil) }},
		{"Take far", 3, func(r *scroll.Reader) { r.Take(math.MaxInt) }},
		{"Take below", 3, func(r *scroll.Reader) { wantBytes(t, "Take(-1)", r.Take(-1), nil) }},
		{"Take far below", 3, func(r *scroll.Reader) { r.Take(math.MinInt) }},
		{"Open", 3, func(r *scroll.Reader) { r.Open(4) }},
		{"Open far", 3, func(r *scroll.Reader) { r.Open(math.MaxInt) }},
		{"Open below", 3, func(r *scroll.Reader) { r.Open(-1) }},
	}
	for _, c := range calls {
		r := scroll.New([]byte{9, 8, 7, 6, 5, 4}[:2+c.left])
		r.Two()
		c.call(r)
		wantFace(t, c.name, r, face{at: 2, err: api.ErrShort})
		wantStill(t, r, face{at: 2, err: api.ErrShort})

		// the block's end counts, not the end of all
		r = scroll.New(make([]byte, 20))
		r.Open(c.left)
		c.call(r)
		wantFace(t, c.name+" in a block", r, face{deep: 1, err: api.ErrShort})
		wantStill(t, r, face{deep: 1, err: api.ErrShort})
	}
}

func TestReaderSharesNoMemory(t *testing.T) {
	given := []byte{1, 2, 3, 4}
	r := scroll.New(given)
	given[0], given[3] = 99, 99
	took := r.Take(2)
	wantBytes(t, "what was handed in is not kept", took, []byte{1, 2})
	_ = append(took, 77)
	took[0] = 88
	rest := r.Rest()
	wantBytes(t, "what was answered is not kept", rest, []byte{3, 4})
	rest[0] = 66
	wantBytes(t, "what was handed in is only read", given, []byte{99, 2, 3, 99})
	wantBytes(t, "Take is no part of Rest", took, []byte{88, 2})
}

func TestReaderOfNothing(t *testing.T) {
	for _, b := range [][]byte{nil, {}} {
		r := scroll.New(b)
		wantFace(t, "of nothing", r, face{})
		wantBytes(t, "Rest", r.Rest(), nil)
		r.Open(0)
		wantFace(t, "an empty block", r, face{deep: 1})
		r.Close()
		wantFace(t, "closed", r, face{})
		r.Byte()
		wantFace(t, "Byte", r, face{err: api.ErrShort})
	}
}

func TestBlocksWithinBlocks(t *testing.T) {
	r := scroll.New([]byte{1, 2, 3, 4, 5, 6, 7, 8})
	r.Byte()
	r.Open(6)
	wantFace(t, "first block", r, face{left: 6, deep: 1, at: 1})
	r.Byte()
	r.Open(3)
	wantFace(t, "second block", r, face{left: 3, deep: 2, at: 2})
	r.Open(3)
	wantFace(t, "third block, as long", r, face{left: 3, deep: 3, at: 2})
	wantBytes(t, "Rest of the third", r.Rest(), []byte{3, 4, 5})
	wantFace(t, "nothing left of three", r, face{deep: 3, at: 5})
	r.Close()
	r.Close()
	wantFace(t, "two closed", r, face{left: 2, deep: 1, at: 5})
	r.Open(0)
	wantFace(t, "an empty one", r, face{deep: 2, at: 5})
	r.Close()
	r.Skip()
	wantFace(t, "the first skipped", r, face{left: 1, at: 7})
	if r.Byte() != 8 {
		t.Error("last byte")
	}
	wantFace(t, "the end", r, face{at: 8})
}

func TestSkipPassesOnlyTheInnermost(t *testing.T) {
	r := scroll.New([]byte{1, 2, 3, 4, 5})
	r.Open(4)
	r.Open(2)
	r.Byte()
	r.Skip()
	wantFace(t, "Skip", r, face{left: 2, deep: 1, at: 2})
	r.Rest()
	r.Skip()
	wantFace(t, "Skip with nothing left", r, face{left: 1, at: 4})
}

func TestCloseWithSomethingLeft(t *testing.T) {
	r := scroll.New([]byte{1, 2, 3, 4})
	r.Open(3)
	r.Open(2)
	r.Byte()
	r.Close()
	wantFace(t, "Close", r, face{deep: 2, at: 1, err: api.ErrForm})
	wantStill(t, r, face{deep: 2, at: 1, err: api.ErrForm})
}

func TestCloseAndSkipWithoutBlock(t *testing.T) {
	for name, call := range map[string]func(*scroll.Reader){
		"Close": (*scroll.Reader).Close,
		"Skip":  (*scroll.Reader).Skip,
	} {
		r := scroll.New([]byte{1, 2})
		r.Byte()
		call(r)
		wantFace(t, name, r, face{at: 1, err: api.ErrUse})
		wantStill(t, r, face{at: 1, err: api.ErrUse})

		r = scroll.New([]byte{1, 2})
		r.Open(1)
		r.Byte()
		r.Close()
		call(r)
		wantFace(t, name+" once too often", r, face{at: 1, err: api.ErrUse})
	}
}

func TestFail(t *testing.T) {
	r := scroll.New([]byte{1, 2, 3})
	r.Open(2)
	r.Byte()
	r.Fail(api.OK)
	wantFace(t, "Fail of OK", r, face{left: 1, deep: 1, at: 1})
	r.Fail(api.ErrState)
	wantFace(t, "Fail", r, face{deep: 1, at: 1, err: api.ErrState})
	wantStill(t, r, face{deep: 1, at: 1, err: api.ErrState})

	for _, e := range []api.Errno{api.ErrNil, -1, 12345} {
		r = scroll.New([]byte{1, 2, 3})
		r.Two()
		r.Fail(e)
		wantFace(t, "Fail of any number", r, face{at: 2, err: e})
		wantStill(t, r, face{at: 2, err: e})
	}
}

func TestReaderThatNewDidNotMake(t *testing.T) {
	var none *scroll.Reader
	for _, r := range []*scroll.Reader{none, {}, new(scroll.Reader)} {
		wantFace(t, "not made", r, face{err: api.ErrNil})
		wantStill(t, r, face{err: api.ErrNil})
	}
}

func TestReaderExamples(t *testing.T) {
	r := scroll.New([]byte{2, 7, 8, 9})
	if n := r.Byte(); n != 2 {
		t.Error(n)
	}
	r.Open(2)
	if n := r.Two(); n != 0x0708 {
		t.Error(n)
	}
	r.Close()
	if n := r.Byte(); n != 9 {
		t.Error(n)
	}
	wantFace(t, "first example", r, face{at: 4})

	r = scroll.New([]byte{2, 7, 8, 9})
	r.Byte()
	r.Open(2)
	r.Byte()
	r.Close()
	if r.Err() != api.ErrForm {
		t.Error(r.Err())
	}
}

func TestCopyOfReaderGoesItsOwnWay(t *testing.T) {
	r := scroll.New([]byte{1, 2, 3, 4, 5, 6, 7, 8})
	for range 3 {
		r.Open(6)
	}
	c := *r
	r.Open(2)
	c.Open(5)
	wantFace(t, "the reader", r, face{left: 2, deep: 4})
	wantFace(t, "its copy", &c, face{left: 5, deep: 4})
}

func TestManyBlocks(t *testing.T) {
	const deep = 1 << 16
	r := scroll.New([]byte{1, 2})
	for range deep {
		r.Open(1)
	}
	wantFace(t, "opened", r, face{left: 1, deep: deep})
	r.Byte()
	for range deep {
		r.Close()
	}
	wantFace(t, "closed", r, face{left: 1, at: 1})
}
