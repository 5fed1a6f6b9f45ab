package caps_test

import (
	"bytes"
	"slices"
	"testing"

	"consulate/api"
	"consulate/caps"
)

var (
	none    = api.Fault{}
	cut     = api.Fault{Code: 2, Sub: 0}
	unknown = api.Fault{Code: 2, Sub: 4}
)

func one(code byte, value ...byte) caps.Cap { return caps.Cap{Code: code, Value: value} }

func sameCap(a, b caps.Cap) bool { return a.Code == b.Code && bytes.Equal(a.Value, b.Value) }

// fill is a value of so many bytes that tells where each of them stood.
func fill(n int) []byte {
	b := make([]byte, n)
	for k := range b {
		b[k] = byte(k*7 + k>>8)
	}
	return b
}

// parameter is a parameter's form, whose length is told as it is.
func parameter(kind byte, value ...byte) []byte {
	return append([]byte{kind, byte(len(value))}, value...)
}

// form is a capability's form.
func form(c caps.Cap) []byte {
	return append([]byte{c.Code, byte(len(c.Value))}, c.Value...)
}

func wantRead(t *testing.T, b []byte, l []caps.Cap, f api.Fault) {
	t.Helper()
	gotL, gotF := caps.Read(b)
	if !slices.EqualFunc(gotL, l, sameCap) || gotF != f {
		t.Errorf("Read(% x): %v, %v, want %v, %v", b, gotL, gotF, l, f)
	}
}

func wantBytes(t *testing.T, l []caps.Cap, b []byte, e api.Errno) {
	t.Helper()
	gotB, gotE := caps.Bytes(l)
	if !bytes.Equal(gotB, b) || gotE != e {
		t.Errorf("Bytes of %d, %.60v: % x, %d, want % x, %d", len(l), l, gotB, gotE, b, e)
	}
}

func TestReadAndBytes(t *testing.T) {
	for _, c := range []struct {
		l []caps.Cap
		b []byte
	}{
		{nil, nil},
		{[]caps.Cap{}, []byte{}},
		{[]caps.Cap{one(2)}, []byte{2, 2, 2, 0}},
		{[]caps.Cap{one(0)}, []byte{2, 2, 0, 0}},
		{[]caps.Cap{one(255, 255)}, []byte{2, 3, 255, 1, 255}},
		{[]caps.Cap{one(65, 0, 1, 0, 0)}, []byte{2, 6, 65, 4, 0, 1, 0, 0}},
		{[]caps.Cap{one(2), one(2)}, []byte{2, 4, 2, 0, 2, 0}},
		{ // neither sorted, nor made one, nor left out
			[]caps.Cap{one(65, 1), one(200, 0, 0), one(1), one(65, 1)},
			[]byte{2, 12, 65, 1, 1, 200, 2, 0, 0, 1, 0, 65, 1, 1},
		},
	} {
		wantRead(t, c.b, c.l, none)
		wantBytes(t, c.l, c.b, api.OK)
	}
}

func TestReadExamples(t *testing.T) {
	wantRead(t, []byte{2, 2, 2, 0}, []caps.Cap{one(caps.Refresh)}, none)
	l, f := caps.Read([]byte{2, 6, 0x41, 4, 0, 1, 0, 0})
	if n, is := caps.Number(l); n != 65536 || !is || f != none {
		t.Error(n, is, f)
	}
	wantRead(t, []byte{1, 0}, nil, unknown)
	wantRead(t, []byte{2, 2, 2}, nil, cut)
	wantRead(t, []byte{2, 1, 2}, nil, cut)
}

// TestReadManyParameters: they are read one behind the other, whatever they
// have all together.
func TestReadManyParameters(t *testing.T) {
	wantRead(t, []byte{2, 0}, nil, none)
	wantRead(t, []byte{2, 0, 2, 0, 2, 0}, nil, none)
	wantRead(t, []byte{2, 2, 2, 0, 2, 0, 2, 3, 1, 1, 7}, []caps.Cap{one(2), one(1, 7)}, none)
	wantRead(t, []byte{2, 4, 2, 0, 2, 0, 2, 6, 65, 4, 0, 0, 0, 1}, []caps.Cap{one(2), one(2), one(65, 0, 0, 0, 1)}, none)

	var b []byte
	var l []caps.Cap
	for n := range 254 {
		c := one(byte(n), fill(n)...)
		b = append(b, parameter(2, form(c)...)...)
		l = append(l, c)
	}
	wantRead(t, b, l, none)
	wantRead(t, append(b, 2), nil, cut)
	wantRead(t, append(b, 2, 3, 1, 2, 0), nil, cut)
	wantRead(t, append(b, 3, 0), nil, unknown)
}

func TestReadEveryTypeButTwo(t *testing.T) {
	for kind := range 256 {
		if kind == 2 {
			continue
		}
		for _, b := range [][]byte{
			parameter(byte(kind)),
			parameter(byte(kind), 2, 0),
			parameter(byte(kind), 2),
			parameter(byte(kind), 2, 9, 0),
			parameter(byte(kind), fill(255)...),
		} {
			wantRead(t, b, nil, unknown)
			wantRead(t, append([]byte{2, 2, 2, 0, 2, 0}, b...), nil, unknown)
			wantRead(t, append(b, 2, 2, 2, 0), nil, unknown)
			wantRead(t, b[:len(b)-1], nil, cut)
		}
		wantRead(t, []byte{byte(kind)}, nil, cut)
		wantRead(t, []byte{byte(kind), 1}, nil, cut)
		wantRead(t, append([]byte{byte(kind), 255}, make([]byte, 254)...), nil, cut)
	}
}

// TestReadCutAnywhere: only where a parameter ends is what is read whole.
func TestReadCutAnywhere(t *testing.T) {
	b := []byte{2, 8, 1, 4, 0, 1, 0, 1, 2, 0, 2, 0, 2, 6, 65, 4, 0, 1, 0, 0}
	ends := map[int]int{0: 0, 10: 2, 12: 2, 20: 3} // and how many are told there
	for n := range len(b) + 1 {
		l, f := caps.Read(b[:n])
		if many, whole := ends[n]; whole != (f == none) || len(l) != many || !whole && f != cut {
			t.Errorf("of the first %d bytes: %v, %v", n, l, f)
		}
	}
}

// TestReadCapabilityBeyondItsParameter: what follows a parameter does not help
// a capability of it.
func TestReadCapabilityBeyondItsParameter(t *testing.T) {
	for _, b := range [][]byte{
		{2, 1, 2, 0},
		{2, 1, 2, 2, 0},
		{2, 2, 2, 1, 2, 0},
		{2, 5, 1, 4, 0, 1, 0, 1, 2, 0},
		{2, 3, 2, 0, 2, 2, 0},
		{2, 2, 2, 255, 2, 2, 2, 0},
		{2, 2, 2, 3, 2, 1, 0},
	} {
		wantRead(t, b, nil, cut)
	}
	for told := range 256 {
		b := parameter(2, append([]byte{7, byte(told)}, fill(253)...)...)
		switch {
		case told > 253:
			wantRead(t, append(b, b...), nil, cut)
		case told == 253:
			wantRead(t, append(b, b...), []caps.Cap{one(7, fill(253)...), one(7, fill(253)...)}, none)
		case told == 252: // a code is left, without its length
			wantRead(t, b, nil, cut)
		}
	}
}

// TestReadTellsTheFirstFault: of several ones that from the left; at one
// parameter that is both, that it is not all there.
func TestReadTellsTheFirstFault(t *testing.T) {
	for _, b := range [][]byte{
		{2, 1, 5, 1, 0}, {2, 2, 5, 9, 1, 0}, {2, 2, 2, 0, 2, 1, 5, 0, 0}, {2, 200, 1, 0},
		{1}, {0}, {1, 1}, {1, 5, 2, 0}, {2, 0, 1, 1},
	} {
		wantRead(t, b, nil, cut)
	}
	for _, b := range [][]byte{
		{1, 0, 2, 1, 5}, {1, 0, 2}, {1, 1, 5, 2, 9}, {2, 2, 2, 0, 3, 1, 9, 2, 1, 5}, {2, 0, 255, 0, 2},
	} {
		wantRead(t, b, nil, unknown)
	}
}

func TestReadSharesNoMemory(t *testing.T) {
	b := []byte{2, 6, 7, 1, 1, 8, 1, 2, 2, 4, 9, 2, 3, 4}
	was := bytes.Clone(b)
	l, _ := caps.Read(b)
	for k := range l {
		_ = append(l[k].Value, 99, 99, 99)
	}
	want := []caps.Cap{one(7, 1), one(8, 2), one(9, 3, 4)}
	if !slices.EqualFunc(l, want, sameCap) || !bytes.Equal(b, was) {
		t.Error("a value grew into another one:", l, b)
	}
	clear(b)
	if !slices.EqualFunc(l, want, sameCap) {
		t.Error("what was handed in is kept:", l)
	}
}

// TestBytesArg: one value of more than 253 bytes, wherever it stands, and
// however many bytes all have.
func TestBytesArg(t *testing.T) {
	for _, n := range []int{254, 255, 256, 257, 509, 512, 65536, 1 << 20} {
		long := one(1, fill(n)...)
		wantBytes(t, []caps.Cap{long}, nil, api.ErrArg)
		wantBytes(t, []caps.Cap{one(2), long}, nil, api.ErrArg)
		wantBytes(t, []caps.Cap{long, one(2)}, nil, api.ErrArg)
		wantBytes(t, []caps.Cap{one(9, fill(253)...), one(9, fill(253)...), long}, nil, api.ErrArg)
		wantBytes(t, []caps.Cap{long, one(9, fill(253)...), one(9, fill(253)...)}, nil, api.ErrArg)
	}
}

// TestBytesOfOne: all parameters have at most 255 bytes, so that a value of
// 251 is the longest that is told.
func TestBytesOfOne(t *testing.T) {
	for n := range 252 {
		c := one(byte(n*3), fill(n)...)
		b := parameter(2, form(c)...)
		wantBytes(t, []caps.Cap{c}, b, api.OK)
		wantRead(t, b, []caps.Cap{c}, none)
	}
	for _, n := range []int{252, 253} {
		c := one(5, fill(n)...)
		wantBytes(t, []caps.Cap{c}, nil, api.ErrLong)
		wantRead(t, parameter(2, form(c)...), []caps.Cap{c}, none)
	}
}

func TestBytesOfMany(t *testing.T) {
	for n := range 300 {
		l := slices.Repeat([]caps.Cap{one(2)}, n)
		wantBytesOf(t, l, 2*n)
		wantBytesOf(t, append(l, one(7, 1)), 2*n+3)
		wantBytesOf(t, append([]caps.Cap{one(65, 0, 1, 0, 0)}, l...), 6+2*n)
	}
	for n := range 254 {
		l := []caps.Cap{one(1, fill(n)...), one(9, fill(100)...)}
		wantBytesOf(t, l, 2+n+102)
	}
	wantBytes(t, slices.Repeat([]caps.Cap{one(9, fill(253)...)}, 5000), nil, api.ErrLong)
}

// wantBytesOf wants capabilities that have so many bytes as one parameter, if
// that is not too long.
func wantBytesOf(t *testing.T, l []caps.Cap, size int) {
	t.Helper()
	if size > 253 {
		wantBytes(t, l, nil, api.ErrLong)
		return
	}
	var value []byte
	for _, c := range l {
		value = append(value, form(c)...)
	}
	if len(value) != size {
		t.Fatal("the test's own size", size, len(value))
	}
	if size == 0 {
		wantBytes(t, l, nil, api.OK)
		return
	}
	wantBytes(t, l, parameter(2, value...), api.OK)
}

func TestBytesSharesNoMemory(t *testing.T) {
	l := []caps.Cap{one(7, 1, 2), one(8, 3)}
	b, _ := caps.Bytes(l)
	l[0].Value[0] = 99
	want := []byte{2, 7, 7, 2, 1, 2, 8, 1, 3}
	if !bytes.Equal(b, want) {
		t.Error("what was handed in is kept:", b)
	}
	clear(b)
	if !slices.EqualFunc(l, []caps.Cap{one(7, 99, 2), one(8, 3)}, sameCap) {
		t.Error("what was handed in is changed:", l)
	}
	again, _ := caps.Bytes([]caps.Cap{one(7, 1, 2), one(8, 3)})
	if !bytes.Equal(again, want) {
		t.Error("an answer is changed by another one:", again)
	}
}

// model tells what the chapter says of parameters, from the left.
func model(b []byte) ([]caps.Cap, api.Fault) {
	var l []caps.Cap
	for at := 0; at < len(b); {
		if at+2 > len(b) || at+2+int(b[at+1]) > len(b) {
			return nil, cut
		}
		if b[at] != 2 {
			return nil, unknown
		}
		end := at + 2 + int(b[at+1])
		for at += 2; at < end; {
			if at+2 > end || at+2+int(b[at+1]) > end {
				return nil, cut
			}
			next := at + 2 + int(b[at+1])
			l = append(l, caps.Cap{Code: b[at], Value: b[at+2 : next]})
			at = next
		}
	}
	return l, none
}

// TestEveryShortRow plays every row of up to eight small bytes: P5.1 by the
// model, and P5.4 of what is read.
func TestEveryShortRow(t *testing.T) {
	rows := [][]byte{nil}
	for len(rows) > 0 {
		b := rows[0]
		rows = rows[1:]
		l, f := model(b)
		wantRead(t, b, l, f)
		wantNoLonger(t, b)
		if t.Failed() {
			return
		}
		for k := range byte(4) {
			if len(b) < 8 {
				rows = append(rows, append(slices.Clone(b), k))
			}
		}
	}
}

// wantNoLonger: P5.4 of parameters that are read, and told again.
func wantNoLonger(t *testing.T, b []byte) {
	t.Helper()
	l, f := caps.Read(b)
	again, e := caps.Bytes(l)
	if f != none || e != api.OK {
		return
	}
	if len(again) > len(b) {
		t.Errorf("% x: longer, % x", b, again)
	}
	wantRead(t, again, l, none)
}

// draws makes numbers below n that only look like chance.
func draws(seed uint32) func(n int) int {
	return func(n int) int {
		seed = seed*1664525 + 1013904223
		return int(seed>>8) % n
	}
}

// TestThereAndBack: P5.4 of capabilities that look like chance, one parameter
// each or many in one.
func TestThereAndBack(t *testing.T) {
	draw := draws(5)
	told := 0
	for range 5000 {
		var l []caps.Cap
		var b, value []byte
		for range draw(8) {
			c := one(byte(draw(256)), fill(draw(80))...)
			l = append(l, c)
			if len(value)+2+len(c.Value) > 255 || draw(3) == 0 {
				b = append(b, parameter(2, value...)...)
				value = nil
			}
			value = append(value, form(c)...)
		}
		b = append(b, parameter(2, value...)...)
		wantRead(t, b, l, none)
		wantNoLonger(t, b)
		if laid, e := caps.Bytes(l); e == api.OK {
			wantRead(t, laid, l, none)
			told++
		} else if e != api.ErrLong || len(b) <= 255 {
			t.Fatal(e, len(b))
		}
	}
	if told < 2000 {
		t.Error("only", told, "were told")
	}
}
