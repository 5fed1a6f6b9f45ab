package open_test

import (
	"bytes"
	"slices"
	"testing"

	"consulate/api"
	"consulate/caps"
	"consulate/open"
)

func one(code byte, value ...byte) caps.Cap { return caps.Cap{Code: code, Value: value} }

// ip is the address a.b.c.d.
func ip(a, b, c, d byte) api.IP {
	return api.IP(a)<<24 | api.IP(b)<<16 | api.IP(c)<<8 | api.IP(d)
}

// head is the form of an OPEN of version 4 whose parameters have told bytes,
// with these behind it, however many they are.
func head(told int, behind ...byte) []byte {
	return append([]byte{4, 0xfd, 0xe9, 0, 90, 10, 0, 0, 1, byte(told)}, behind...)
}

// headOpen is what head tells.
func headOpen(l ...caps.Cap) open.Open {
	return open.Open{Version: 4, AS: 65001, Hold: 90, Id: ip(10, 0, 0, 1), Caps: l}
}

func sameCap(a, b caps.Cap) bool { return a.Code == b.Code && bytes.Equal(a.Value, b.Value) }

func same(a, b open.Open) bool {
	return a.Version == b.Version && a.AS == b.AS && a.Hold == b.Hold && a.Id == b.Id && slices.EqualFunc(a.Caps, b.Caps, sameCap)
}

func wantGet(t *testing.T, b []byte, o open.Open) {
	t.Helper()
	got, f, data := open.Get(b)
	if !same(got, o) || f != (api.Fault{}) || len(data) != 0 {
		t.Errorf("Get(% x): %v, %v, % x, want %v", b, got, f, data, o)
	}
}

func wantFault(t *testing.T, b []byte, sub byte, data ...byte) {
	t.Helper()
	o, f, got := open.Get(b)
	if !same(o, open.Open{}) || f != (api.Fault{Code: 2, Sub: sub}) || !bytes.Equal(got, data) {
		t.Errorf("Get(% x): %v, %v, % x, want no OPEN, 2, %d, % x", b, o, f, got, sub, data)
	}
}

func wantPut(t *testing.T, o open.Open, b []byte, e api.Errno) {
	t.Helper()
	gotB, gotE := open.Put(o)
	if !bytes.Equal(gotB, b) || gotE != e {
		t.Errorf("Put(%.100v): % x, %d, want % x, %d", o, gotB, gotE, b, e)
	}
}

func TestForm(t *testing.T) {
	for _, c := range []struct {
		o open.Open
		b []byte
	}{
		{headOpen(), head(0)},
		{open.Open{Version: 4}, []byte{4, 0, 0, 0, 0, 0, 0, 0, 0, 0}},
		{
			open.Open{Version: 4, AS: 0x0102, Hold: 0x0304, Id: 0x05060708},
			[]byte{4, 1, 2, 3, 4, 5, 6, 7, 8, 0},
		},
		{
			open.Open{Version: 4, AS: 0xffff, Hold: 0xfffe, Id: 0xfffefdfc},
			[]byte{4, 0xff, 0xff, 0xff, 0xfe, 0xff, 0xfe, 0xfd, 0xfc, 0},
		},
		{headOpen(one(2)), head(4, 2, 2, 2, 0)},
		{headOpen(one(65, 0, 1, 0, 0), one(200), one(65, 1)), head(13, 2, 11, 65, 4, 0, 1, 0, 0, 200, 0, 65, 1, 1)},
	} {
		wantPut(t, c.o, c.b, api.OK)
		wantGet(t, c.b, c.o)
	}
}

func TestPutLaysEveryVersion(t *testing.T) {
	for v := range 256 {
		o, b := headOpen(one(2)), head(4, 2, 2, 2, 0)
		o.Version, b[0] = byte(v), byte(v)
		wantPut(t, o, b, api.OK)
	}
}

// TestPutErrors: they are those of the parameters.
func TestPutErrors(t *testing.T) {
	long := func(n int) caps.Cap { return one(7, bytes.Repeat([]byte{8}, n)...) }
	for n := range 300 {
		o := headOpen(long(n))
		switch {
		case n <= 251:
			form := append([]byte{2, byte(n + 2), 7, byte(n)}, long(n).Value...)
			wantPut(t, o, head(n+4, form...), api.OK)
		case n <= 253:
			wantPut(t, o, nil, api.ErrLong)
		default:
			wantPut(t, o, nil, api.ErrArg)
		}
	}
	wantPut(t, headOpen(long(200), long(200)), nil, api.ErrLong)
	wantPut(t, headOpen(long(200), long(200), long(254)), nil, api.ErrArg)
	wantPut(t, open.Open{Caps: []caps.Cap{long(1 << 20)}}, nil, api.ErrArg)
	wantPut(t, headOpen(slices.Repeat([]caps.Cap{one(2)}, 126)...), head(254, append([]byte{2, 252}, bytes.Repeat([]byte{2, 0}, 126)...)...), api.OK)
	wantPut(t, headOpen(slices.Repeat([]caps.Cap{one(2)}, 127)...), nil, api.ErrLong)
}

// TestGetShort: that goes ahead of a wrong version.
func TestGetShort(t *testing.T) {
	wantFault(t, nil, 0)
	for _, v := range []byte{0, 3, 4, 5, 255} {
		b := head(0)
		b[0] = v
		for n := range b {
			wantFault(t, b[:n], 0)
		}
	}
}

// TestGetVersion: that goes ahead of whatever is wrong behind.
func TestGetVersion(t *testing.T) {
	for v := range 256 {
		if v == 4 {
			continue
		}
		for _, b := range [][]byte{
			head(0), head(1), head(255), head(0, 2), head(4, 2, 2, 2, 0), head(2, 1, 0), head(3, 2, 1, 2), head(3, 2, 2, 2),
			head(0, make([]byte, 300)...),
		} {
			b[0] = byte(v)
			wantFault(t, b, 1, 0, 4)
		}
	}
}

// TestGetLength: more or fewer bytes are there than are told, whether they are
// parameters or not.
func TestGetLength(t *testing.T) {
	for told := range 256 {
		for there := range 600 {
			if there == told {
				continue
			}
			wantFault(t, head(told, make([]byte, there)...), 0)
			wantFault(t, head(told, bytes.Repeat([]byte{2, 0}, there)[:there]...), 0)
		}
	}
	wantFault(t, head(0, 2, 2, 2, 0), 0)
	wantFault(t, head(3, 2, 2, 2, 0), 0)
	wantFault(t, head(5, 2, 2, 2, 0), 0)
	wantFault(t, head(4, make([]byte, 1<<16+4)...), 0)
}

// TestGetParameters: their fault is told as caps tells it.
func TestGetParameters(t *testing.T) {
	for _, l := range [][]byte{{2}, {2, 1}, {2, 1, 2}, {2, 2, 2}, {2, 2, 2, 1}, {1}, {1, 1}, {2, 2, 2, 0, 2}} {
		wantFault(t, head(len(l), l...), 0)
	}
	for _, l := range [][]byte{{1, 0}, {0, 0}, {255, 1, 9}, {2, 2, 2, 0, 3, 0}, {1, 0, 2, 1, 2}} {
		wantFault(t, head(len(l), l...), 4)
	}
	wantGet(t, head(2, 2, 0), headOpen())
	wantGet(t, head(8, 2, 2, 2, 0, 2, 2, 9, 0), headOpen(one(2), one(9)))
	wantGet(t, head(254, bytes.Repeat([]byte{2, 0}, 127)...), headOpen())
	whole := append([]byte{2, 253, 9, 251}, bytes.Repeat([]byte{7}, 251)...)
	wantGet(t, head(255, whole...), headOpen(one(9, whole[4:]...)))
}

// TestGetAsksNothingMore: what Check finds wrong is got all the same.
func TestGetAsksNothingMore(t *testing.T) {
	for hold := range 4 {
		wantGet(t, []byte{4, 0x5b, 0xa0, 0, byte(hold), 224, 0, 0, 0, 0}, open.Open{Version: 4, AS: 23456, Hold: uint16(hold), Id: ip(224, 0, 0, 0)})
		wantGet(t, []byte{4, 0, 0, 0, byte(hold), 0, 0, 0, 0, 4, 2, 2, 1, 0}, open.Open{Version: 4, Hold: uint16(hold), Caps: []caps.Cap{one(1)}})
	}
}

func TestBytesShareNoMemory(t *testing.T) {
	b := head(7, 2, 5, 7, 1, 1, 8, 0)
	was := bytes.Clone(b)
	o, _, _ := open.Get(b)
	_ = append(o.Caps[0].Value, 99, 99)
	if !bytes.Equal(b, was) {
		t.Error("what was handed in is changed:", b)
	}
	clear(b)
	if !same(o, headOpen(one(7, 1), one(8))) {
		t.Error("what was handed in is kept:", o)
	}

	told, _ := open.Put(o)
	o.Caps[0].Value[0] = 99
	if !bytes.Equal(told, was) {
		t.Error("what was handed in is kept:", told)
	}
	clear(told)
	if !same(o, headOpen(one(7, 99), one(8))) {
		t.Error("what was handed in is changed:", o)
	}

	_, _, data := open.Get(make([]byte, 10))
	clear(data)
	wantFault(t, make([]byte, 10), 1, 0, 4)
}

// model tells what the chapter says of a form, but for what caps.Read says.
func model(b []byte) (open.Open, api.Fault, []byte) {
	if len(b) < 10 {
		return open.Open{}, api.Fault{Code: 2}, nil
	}
	if b[0] != 4 {
		return open.Open{}, api.Fault{Code: 2, Sub: 1}, []byte{0, 4}
	}
	if len(b) != 10+int(b[9]) {
		return open.Open{}, api.Fault{Code: 2}, nil
	}
	l, f := caps.Read(b[10:])
	if f.Code != 0 {
		return open.Open{}, f, nil
	}
	return open.Open{
		Version: b[0],
		AS:      uint16(b[1])*256 + uint16(b[2]),
		Hold:    uint16(b[3])*256 + uint16(b[4]),
		Id:      ip(b[5], b[6], b[7], b[8]),
		Caps:    l,
	}, api.Fault{}, nil
}

// wantAsModel holds Get against the model and, of what is got, P6.3.
func wantAsModel(t *testing.T, b []byte) (got bool) {
	t.Helper()
	o, f, data := model(b)
	if f.Code != 0 {
		wantFault(t, b, f.Sub, data...)
		return false
	}
	wantGet(t, b, o)
	again, e := open.Put(o)
	if e != api.OK || len(again) > len(b) {
		t.Errorf("% x: %d, told as % x", b, e, again)
	}
	wantGet(t, again, o)
	return true
}

// TestEveryShortRowBehind plays every row of up to seven small bytes as the
// parameters.
func TestEveryShortRowBehind(t *testing.T) {
	rows := [][]byte{nil}
	for len(rows) > 0 && !t.Failed() {
		l := rows[0]
		rows = rows[1:]
		wantAsModel(t, head(len(l), l...))
		for k := range byte(4) {
			if len(l) < 7 {
				rows = append(rows, append(slices.Clone(l), k))
			}
		}
	}
}

// draws makes numbers below n that only look like chance.
func draws(seed uint32) func(n int) int {
	return func(n int) int {
		seed = seed*1664525 + 1013904223
		return int(seed>>8) % n
	}
}

// drawn is an OPEN of version 4 with whatever there may be.
func drawn(draw func(n int) int) open.Open {
	o := open.Open{Version: 4, AS: uint16(draw(1 << 16)), Hold: uint16(draw(1 << 16)), Id: api.IP(draw(1<<16)<<16 | draw(1<<16))}
	for range draw(6) {
		c := one(byte(draw(256)))
		for range draw(40) {
			c.Value = append(c.Value, byte(draw(256)))
		}
		o.Caps = append(o.Caps, c)
	}
	return o
}

// TestThereAndBack: P6.3 of what is told, and of that with each one byte
// changed, one more, or one fewer.
func TestThereAndBack(t *testing.T) {
	draw := draws(6)
	got := 0
	for range 2000 {
		o := drawn(draw)
		b, e := open.Put(o)
		if e != api.OK {
			t.Fatal(e)
		}
		wantGet(t, b, o)
		wantAsModel(t, append(slices.Clone(b), byte(draw(256))))
		wantAsModel(t, b[:len(b)-1])
		for range 20 {
			at := draw(len(b))
			was := b[at]
			b[at] = byte(draw(256))
			if wantAsModel(t, b) {
				got++
			}
			b[at] = was
		}
	}
	if got < 2000 {
		t.Error("only", got, "were got")
	}
}
