package attrs_test

import (
	"bytes"
	"math"
	"slices"
	"testing"

	"consulate/api"
	"consulate/attrs"
	"consulate/path"
)

func wantPut(t *testing.T, what string, a attrs.Attrs, four bool, b []byte, e api.Errno) {
	t.Helper()
	was := copied(a)
	gotB, gotE := attrs.Put(a, four)
	if !bytes.Equal(gotB, b) || gotE != e {
		t.Errorf("%s: Put(%s, %v): % x, %d, want % x, %d", what, shown(a), four, gotB, gotE, b, e)
	}
	if !same(a, was) {
		t.Errorf("%s: Put changed %s", what, shown(was))
	}
}

func TestPutEachApart(t *testing.T) {
	for _, four := range []bool{false, true} {
		wantPut(t, "nothing", attrs.Attrs{}, four, nil, api.OK)
		for _, v := range values(t, four) {
			a := v.a
			a.Has = bits(v.typ)
			b := form(flagsOf(v.typ), v.typ, raw(t, v.bytes)...)
			switch {
			case four && (v.typ == 17 || v.typ == 18):
				b = nil
			case v.typ == 17 && len(v.bytes) > 60: // that had confed segments
				b = form(0xc0, 17, raw(t, "02 01 00011170 01 01 00000009")...)
			}
			wantPut(t, "one", a, four, b, api.OK)
		}
		for k := range 256 {
			if typ := byte(k); flagsOf(typ) == 0 {
				a := attrs.Attrs{Others: []attrs.Other{{Flags: 0xc0, Type: typ, Value: []byte{1, typ}}}}
				wantPut(t, "an other", a, four, form(0xc0, typ, 1, typ), api.OK)
				a.Others[0].Flags = 0xe0
				wantPut(t, "an other, Partial", a, four, form(0xe0, typ, 1, typ), api.OK)
			}
		}
	}
}

// TestPutAll: by rising types, others between those that are known.
func TestPutAll(t *testing.T) {
	rows := [][]byte{
		form(0xe0, 0, 1),
		form(0x40, 1, 2),
		form(0x40, 2, raw(t, "03 01 0007 02 02 000a 5ba0 01 02 0014 001e")...),
		form(0x40, 3, 10, 0, 0, 1),
		form(0x80, 4, 0, 0, 0, 5),
		form(0x40, 5, 0, 0, 0, 100),
		form(0x40, 6),
		form(0xc0, 7, raw(t, "5ba0 0a000002")...),
		form(0xc0, 8, raw(t, "00000006 ffffffff")...),
		form(0xc0, 9),
		form(0xc0, 16, 2, 3),
		form(0xc0, 17, raw(t, "02 02 0000000a 00011170 01 02 00000014 0000001e")...),
		form(0xc0, 18, raw(t, "00011171 0a000003")...),
		form(0xe0, 19, 4, 5, 6),
		form(0xc0, 255, 7),
	}
	wantPut(t, "all, two bytes", full(t), false, slices.Concat(rows...), api.OK)
	rows[2] = form(0x40, 2, raw(t, "03 01 00000007 02 02 0000000a 00005ba0 01 02 00000014 0000001e")...)
	rows[7] = form(0xc0, 7, raw(t, "00005ba0 0a000002")...)
	rows[11], rows[12] = nil, nil
	wantPut(t, "all, four bytes", full(t), true, slices.Concat(rows...), api.OK)
	// and without each
	for k, row := range rows {
		if len(row) > 0 {
			a := full(t).Without(row[1])
			wantPut(t, "all but one", a, true, slices.Concat(slices.Concat(rows[:k]...), slices.Concat(rows[k+1:]...)), api.OK)
		}
	}
}

// TestPutRange: what two bytes can't tell, of the path and the Aggregator alone.
func TestPutRange(t *testing.T) {
	for _, n := range []api.AS{0, 1, 23456, 65534, 65535, 65536, 65537, 1 << 24, 1 << 31, math.MaxUint32} {
		e := api.OK
		if n > 65535 {
			e = api.ErrRange
		}
		want := func(what string, a attrs.Attrs, e api.Errno) {
			t.Helper()
			for _, four := range []bool{false, true} {
				b, got := attrs.Put(a, four)
				if four && got != api.OK || !four && got != e || got != api.OK && len(b) > 0 || got == api.OK && len(b) == 0 && a.Path4 == nil && a.Has&bits(18) == 0 {
					t.Errorf("%d in %s: Put(.., %v) % x, %d", n, what, four, b, got)
				}
			}
		}
		for kind := byte(1); kind <= 4; kind++ {
			for at := range 3 {
				numbers := []api.AS{1, 2, 3}
				numbers[at] = n
				p := path.Path{seg(2, 1), {Kind: kind, Numbers: numbers}, seg(1, 1)}
				want("the path", attrs.Attrs{Has: bits(2), Path: p}, e)
				if kind < 3 {
					want("the path beside", attrs.Attrs{Has: bits(17), Path4: p}, api.OK)
				}
			}
		}
		want("the Aggregator", attrs.Attrs{Has: bits(7), By: attrs.By{AS: n}}, e)
		want("the wide Aggregator", attrs.Attrs{Has: bits(18), By4: attrs.By{AS: n}}, api.OK)
		want("what is told as four bytes anyway", attrs.Attrs{
			Has: bits(4, 5, 7, 8, 18), Med: uint32(n), Pref: uint32(n), Communities: []uint32{uint32(n)},
			By: attrs.By{AS: 1, IP: api.IP(n)}, By4: attrs.By{AS: n, IP: api.IP(n)},
		}, api.OK)
		// what may not be goes ahead
		a := full(t)
		a.By.AS, a.Path[1].Numbers[0], a.Origin = n, n, 3
		wantPut(t, "what may not be", a, false, nil, api.ErrArg)
		wantPut(t, "what may not be", a, true, nil, api.ErrArg)
	}
}

// TestPutExtended: with more than 255 bytes, and just there.
func TestPutExtended(t *testing.T) {
	want := func(what string, a attrs.Attrs, four bool, flags, typ byte, value []byte) {
		t.Helper()
		if len(value) > 255 {
			flags |= 0x10
		}
		wantPut(t, what, a, four, form(flags, typ, value...), api.OK)
	}
	for _, n := range []int{0, 1, 254, 255, 256, 257, 511, 512, 65534, 65535} {
		v := bytes.Repeat([]byte{3}, n)
		for _, flags := range []byte{0xc0, 0xe0} {
			want("other", attrs.Attrs{Others: []attrs.Other{{Flags: flags, Type: 9, Value: v}}}, true, flags, 9, v)
		}
	}
	for _, n := range []int{1, 63, 64, 65, 127, 128, 16382, 16383} {
		a := attrs.Attrs{Has: bits(8), Communities: make([]uint32, n)}
		want("communities", a, false, 0xc0, 8, make([]byte, 4*n))
	}
	for n := 1; n <= 255; n++ {
		p := path.Path{{Kind: 2, Numbers: make([]api.AS, n)}}
		narrow, wide := append([]byte{2, byte(n)}, make([]byte, 2*n)...), append([]byte{2, byte(n)}, make([]byte, 4*n)...)
		want("path", attrs.Attrs{Has: bits(2), Path: p}, false, 0x40, 2, narrow)
		want("path", attrs.Attrs{Has: bits(2), Path: p}, true, 0x40, 2, wide)
		want("path beside", attrs.Attrs{Has: bits(17), Path4: p}, false, 0xc0, 17, wide)
	}
	long := attrs.Attrs{Has: bits(2), Path: segments(32, seg(2, 255))}
	b, e := attrs.Put(long, true)
	if n := 32 * (2 + 4*255); e != api.OK || len(b) != n+4 || !bytes.Equal(b[:4], []byte{0x50, 2, byte(n >> 8), byte(n)}) {
		t.Errorf("the longest path: %d bytes, %d", len(b), e)
	}
}

// TestPutNewMemory: what was answered hangs on nothing any more.
func TestPutNewMemory(t *testing.T) {
	a := full(t)
	for _, four := range []bool{false, true} {
		b, _ := attrs.Put(a, four)
		c, _ := attrs.Put(a, four)
		turn(b)
		if !same(a, full(t)) {
			t.Error("what was answered is what was handed in")
		}
		d, _ := attrs.Put(a, four)
		if !bytes.Equal(c, d) {
			t.Error("what was answered was kept")
		}
	}
}
