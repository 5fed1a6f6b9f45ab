package scroll_test

import (
	"math"
	"testing"

	"consulate/api"
	"consulate/scroll"
)

func wantDone(t *testing.T, what string, w *scroll.Writer, want []byte, wantErr api.Errno) {
	t.Helper()
	got, e := w.Done()
	if e != wantErr {
		t.Errorf("%s: Done answers %d, want %d", what, e, wantErr)
	}
	wantBytes(t, what, got, want)
}

// wantStuck holds w against the error and the length that it must keep.
func wantStuck(t *testing.T, w *scroll.Writer, size int, e api.Errno) {
	t.Helper()
	for _, again := range []*scroll.Writer{
		w.Byte(1, 2), w.Two(3), w.Four(4), w.Hold(1), w.Hold(2), w.Hold(0), w.Fill(),
	} {
		if again != w {
			t.Error("another writer was told")
		}
	}
	if w.Err() != e || w.Len() != size {
		t.Errorf("err %d, len %d; want %d, %d", w.Err(), w.Len(), e, size)
	}
	wantDone(t, "behind an error", w, nil, e)
}

func TestNumbersAreLaidInOrder(t *testing.T) {
	w := scroll.Lay()
	if w.Len() != 0 || w.Err() != api.OK {
		t.Error(w.Len(), w.Err())
	}
	wantDone(t, "of nothing", w, nil, api.OK)
	for _, again := range []*scroll.Writer{
		w.Byte(0xff, 1), w.Two(0xfe02, 0x0304), w.Four(0xfc050607, 8), w.Byte(), w.Two(), w.Four(),
	} {
		if again != w {
			t.Error("another writer was told")
		}
	}
	if w.Len() != 14 || w.Err() != api.OK {
		t.Error(w.Len(), w.Err())
	}
	want := []byte{0xff, 1, 0xfe, 2, 3, 4, 0xfc, 5, 6, 7, 0, 0, 0, 8}
	wantDone(t, "numbers", w, want, api.OK)
	w.Byte(9)
	wantDone(t, "laid on behind Done", w, append(want, 9), api.OK)
}

func TestWriterSharesNoMemory(t *testing.T) {
	l := []byte{1, 2}
	w := scroll.Lay().Byte(l...)
	l[0] = 99
	first, _ := w.Done()
	wantBytes(t, "what was handed in is not kept", first, []byte{1, 2})
	first[1] = 88
	second, _ := w.Done()
	wantBytes(t, "what was answered is not kept", second, []byte{1, 2})
	wantBytes(t, "what was handed in is only read", l, []byte{99, 2})
	w.Byte(3)
	wantBytes(t, "two answers share nothing", second, []byte{1, 2})
}

func TestHoldsWithinHolds(t *testing.T) {
	w := scroll.Lay().Byte(7).Hold(2).Byte(8).Hold(1).Fill().Hold(1).Two(9).Fill()
	if w.Len() != 8 {
		t.Error(w.Len())
	}
	wantDone(t, "one still held", w, nil, api.ErrUse)
	if w.Err() != api.OK {
		t.Error("Done noted", w.Err())
	}
	wantDone(t, "filled", w.Fill().Byte(6), []byte{7, 0, 5, 8, 0, 2, 0, 9, 6}, api.OK)
}

func TestHoldLaysZeros(t *testing.T) {
	if n := scroll.Lay().Hold(1).Len(); n != 1 {
		t.Error(n)
	}
	if n := scroll.Lay().Hold(2).Len(); n != 2 {
		t.Error(n)
	}
	wantDone(t, "holds of nothing", scroll.Lay().Hold(1).Fill().Hold(2).Fill(), []byte{0, 0, 0}, api.OK)
}

func TestHoldOfAnotherWidth(t *testing.T) {
	for _, wide := range []int{0, 3, 4, -1, -2, 257, math.MaxInt, math.MinInt} {
		w := scroll.Lay().Byte(5).Hold(wide)
		if w.Err() != api.ErrArg {
			t.Errorf("Hold(%d): %d", wide, w.Err())
		}
		wantStuck(t, w, 1, api.ErrArg)
	}
}

func TestFillWithoutHold(t *testing.T) {
	wantStuck(t, scroll.Lay().Fill(), 0, api.ErrUse)
	wantStuck(t, scroll.Lay().Byte(1, 2).Fill(), 2, api.ErrUse)
	wantStuck(t, scroll.Lay().Hold(1).Fill().Fill(), 1, api.ErrUse)
}

func TestHowMuchAHoldCanTell(t *testing.T) {
	for wide, most := range map[int]int{1: 255, 2: 65535} {
		for _, n := range []int{most - 1, most} {
			b, e := scroll.Lay().Hold(wide).Byte(make([]byte, n)...).Fill().Done()
			if e != api.OK || len(b) != wide+n {
				t.Fatalf("%d bytes behind a hold of %d: %d", n, wide, e)
			}
			r := scroll.New(b)
			told := int(r.Byte())
			if wide == 2 {
				told = told<<8 | int(r.Byte())
			}
			if told != n {
				t.Errorf("a hold of %d tells %d, want %d", wide, told, n)
			}
		}
		for _, n := range []int{most + 1, most + 2, 2 * (most + 1)} {
			w := scroll.Lay().Byte(3).Hold(wide).Byte(make([]byte, n)...).Fill()
			if w.Err() != api.ErrLong {
				t.Errorf("%d bytes behind a hold of %d: %d", n, wide, w.Err())
			}
			wantStuck(t, w, 1+wide+n, api.ErrLong)
		}
	}
}

func TestOnlyBytesBehindTheHoldCount(t *testing.T) {
	w := scroll.Lay().Byte(make([]byte, 300)...).Hold(1).Byte(make([]byte, 255)...).Fill()
	if w.Err() != api.OK {
		t.Error("bytes ahead of a hold were counted:", w.Err())
	}
	w = scroll.Lay().Hold(1).Hold(2).Byte(make([]byte, 254)...).Fill().Fill()
	if w.Err() != api.ErrLong {
		t.Error("an inner hold's own bytes were not counted:", w.Err())
	}
}

func TestWriterThatLayDidNotMake(t *testing.T) {
	var none *scroll.Writer
	for _, w := range []*scroll.Writer{none, {}, new(scroll.Writer)} {
		if w.Err() != api.ErrNil || w.Len() != 0 {
			t.Error(w.Err(), w.Len())
		}
		wantDone(t, "not made", w, nil, api.ErrNil)
		wantStuck(t, w, 0, api.ErrNil)
	}
}

func TestWriterExample(t *testing.T) {
	wantDone(t, "example", scroll.Lay().Hold(1).Byte(5, 6).Fill(), []byte{2, 5, 6}, api.OK)
}
