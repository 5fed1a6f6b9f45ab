package prefix_test

import (
	"bytes"
	"math"
	"slices"
	"testing"

	"consulate/api"
	"consulate/prefix"
)

func wantRead(t *testing.T, b []byte, l []api.Prefix, e api.Errno) {
	t.Helper()
	if gotL, gotE := prefix.Read(b); !slices.Equal(gotL, l) || gotE != e {
		t.Errorf("Read(% x): %v, %d, want %v, %d", b, gotL, gotE, l, e)
	}
}

func wantBytes(t *testing.T, l []api.Prefix, b []byte, e api.Errno) {
	t.Helper()
	if gotB, gotE := prefix.Bytes(l...); !bytes.Equal(gotB, b) || gotE != e {
		t.Errorf("Bytes(%v): % x, %d, want % x, %d", l, gotB, gotE, b, e)
	}
}

func TestReadAndBytes(t *testing.T) {
	for _, c := range []struct {
		l []api.Prefix
		b []byte
	}{
		{nil, nil},
		{[]api.Prefix{}, []byte{}},
		{[]api.Prefix{{}}, []byte{0}},
		{[]api.Prefix{{}, {}, {}}, []byte{0, 0, 0}},
		{[]api.Prefix{{IP: 0x80000000, Bits: 1}}, []byte{1, 0x80}},
		{[]api.Prefix{{IP: 0x0a000000, Bits: 8}}, []byte{8, 10}},
		{[]api.Prefix{{IP: 0x0a800000, Bits: 9}}, []byte{9, 10, 0x80}},
		{[]api.Prefix{{IP: 0x0a010000, Bits: 16}}, []byte{16, 10, 1}},
		{[]api.Prefix{{IP: 0x0a010080, Bits: 25}}, []byte{25, 10, 1, 0, 0x80}},
		{[]api.Prefix{{IP: math.MaxUint32, Bits: 32}}, []byte{32, 255, 255, 255, 255}},
		{[]api.Prefix{{Bits: 17}}, []byte{17, 0, 0, 0}},
		{ // neither sorted nor made one
			[]api.Prefix{{IP: 0x0a010200, Bits: 24}, {}, {IP: 0xff800000, Bits: 9}, {IP: 0x0a010200, Bits: 24}},
			[]byte{24, 10, 1, 2, 0, 9, 255, 128, 24, 10, 1, 2},
		},
	} {
		wantRead(t, c.b, c.l, api.OK)
		wantBytes(t, c.l, c.b, api.OK)
	}
}

func TestReadExample(t *testing.T) {
	wantRead(t, []byte{0x18, 0x0a, 0x01, 0x02, 0x00, 0x09, 0xff, 0xff},
		[]api.Prefix{{IP: 0x0a010200, Bits: 24}, {}, {IP: 0xff800000, Bits: 9}}, api.OK)
}

func TestReadTakesBitsBehindAsNought(t *testing.T) {
	for bits := range 33 {
		b := slices.Repeat([]byte{255}, 1+(bits+7)/8)
		b[0] = byte(bits)
		p := api.Prefix{IP: api.IP(uint64(math.MaxUint32) << (32 - bits)), Bits: bits}
		wantRead(t, b, []api.Prefix{p}, api.OK)
		wantRead(t, append(b, b...), []api.Prefix{p, p}, api.OK)
	}
}

func TestReadForm(t *testing.T) {
	for bits := 33; bits < 256; bits++ {
		for follow := range 40 {
			b := append([]byte{byte(bits)}, make([]byte, follow)...)
			wantRead(t, b, nil, api.ErrForm)
			wantRead(t, append([]byte{8, 10, 0}, b...), nil, api.ErrForm)
		}
	}
}

func TestReadShort(t *testing.T) {
	for bits := 1; bits < 33; bits++ {
		for have := range (bits + 7) / 8 {
			b := append([]byte{byte(bits)}, make([]byte, have)...)
			wantRead(t, b, nil, api.ErrShort)
			wantRead(t, append([]byte{8, 10, 0}, b...), nil, api.ErrShort)
		}
	}
}

// TestReadTellsWhatComesFirst: at one prefix that is both, ErrForm goes ahead,
// for the promise names it first.
func TestReadTellsWhatComesFirst(t *testing.T) {
	for _, b := range [][]byte{
		{33}, {255, 1}, {0x80, 0x18, 0x0a, 0x01}, {33, 24, 10}, {8, 33, 33}, {32, 33, 34, 35, 36, 40},
		{0, 0, 33, 32, 1}, {24, 10, 1, 2, 0, 0, 200},
	} {
		wantRead(t, b, nil, api.ErrForm)
	}
	for _, b := range [][]byte{
		{24, 10, 33}, {16, 33}, {8, 33, 16, 10}, {0, 0, 32, 1, 2, 33}, {0, 31, 255, 255, 255}, {8, 10, 8, 11, 8},
		{24, 10, 1, 2, 1}, {25, 10, 1, 2}, {24, 10, 1, 2, 0, 0, 9, 1},
	} {
		wantRead(t, b, nil, api.ErrShort)
	}
}

func TestBytesOfWhatMayNotBe(t *testing.T) {
	fine := api.Prefix{IP: 0x0a000000, Bits: 8}
	for _, p := range mayNot() {
		wantBytes(t, []api.Prefix{p}, nil, api.ErrArg)
		wantBytes(t, []api.Prefix{p, fine}, nil, api.ErrArg)
		wantBytes(t, []api.Prefix{fine, p, fine}, nil, api.ErrArg)
		wantBytes(t, []api.Prefix{fine, fine, p}, nil, api.ErrArg)
	}
}

// TestPrefixesThereAndBack: P2.4 for prefixes.
func TestPrefixesThereAndBack(t *testing.T) {
	l := sample()
	for _, p := range l {
		b, e := prefix.Bytes(p)
		if e != api.OK || len(b) != 1+(p.Bits+7)/8 {
			t.Errorf("Bytes(%v): % x, %d", p, b, e)
		}
		wantRead(t, b, []api.Prefix{p}, api.OK)
		wantPrefix(t, prefix.Text(p), p, api.OK)
	}
	for range 2 {
		b, e := prefix.Bytes(l...)
		if e != api.OK {
			t.Fatal(e)
		}
		wantRead(t, b, l, api.OK)
		slices.Reverse(l)
	}
}

// wantThereAndBack holds Bytes of what is read against b.
func wantThereAndBack(t *testing.T, b []byte) {
	t.Helper()
	l, e := prefix.Read(b)
	if e != api.OK {
		if len(l) > 0 {
			t.Fatalf("Read(% x): %v beside %d", b, l, e)
		}
		return
	}
	for _, p := range l {
		if !prefix.May(p) {
			t.Fatalf("Read(% x): %v may not be", b, p)
		}
	}
	again, e := prefix.Bytes(l...)
	if e != api.OK || len(again) > len(b) {
		t.Fatalf("Bytes of Read(% x): % x, %d", b, again, e)
	}
	wantRead(t, again, l, api.OK)
}

// TestBytesThereAndBack: P2.4 for bytes, every row of up to four out of those
// that stand at an edge as Bits or as an address's.
func TestBytesThereAndBack(t *testing.T) {
	edges := []byte{0, 1, 7, 8, 9, 16, 17, 24, 25, 31, 32, 33, 127, 128, 255}
	rows := [][]byte{nil}
	for at := 0; at < len(rows); at++ {
		wantThereAndBack(t, rows[at])
		if len(rows[at]) == 4 {
			continue
		}
		for _, b := range edges {
			rows = append(rows, append(slices.Clone(rows[at]), b))
		}
	}
}

func TestLongList(t *testing.T) {
	var l []api.Prefix
	for k := range 100000 {
		ip := api.IP(k) * 2654435761
		bits := k % 33
		l = append(l, api.Prefix{IP: ip >> (32 - bits) << (32 - bits), Bits: bits})
	}
	b, e := prefix.Bytes(l...)
	if e != api.OK {
		t.Fatal(e)
	}
	if got, e := prefix.Read(b); e != api.OK || !slices.Equal(got, l) {
		t.Error("a long list is not read as it was laid", e)
	}
	if got, e := prefix.Read(b[:len(b)-1]); e != api.ErrShort || len(got) > 0 {
		t.Error("cut by one", len(got), e)
	}
}

func TestListsShareNoMemory(t *testing.T) {
	l := []api.Prefix{{IP: 0xff000000, Bits: 8}, {IP: 0x0a010000, Bits: 16}}
	wasL := slices.Clone(l)
	b, _ := prefix.Bytes(l...)
	again, _ := prefix.Bytes(l...)
	if !slices.Equal(l, wasL) {
		t.Error("Bytes changed what it was given", l)
	}
	l[0] = api.Prefix{}
	b[0], b[1] = 7, 7
	if !bytes.Equal(again, []byte{8, 255, 16, 10, 1}) {
		t.Errorf("two answers share memory: % x", again)
	}

	given := []byte{9, 255, 255, 16, 10, 1}
	wasGiven := slices.Clone(given)
	read, _ := prefix.Read(given)
	second, _ := prefix.Read(given)
	if !bytes.Equal(given, wasGiven) {
		t.Errorf("Read changed what it was given: % x", given)
	}
	clear(given)
	read[0] = api.Prefix{}
	if !slices.Equal(second, []api.Prefix{{IP: 0xff800000, Bits: 9}, {IP: 0x0a010000, Bits: 16}}) {
		t.Error("two answers share memory", second)
	}
}
