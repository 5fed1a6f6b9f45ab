package update_test

import (
	"fmt"
	"slices"
	"testing"

	"consulate/api"
	"consulate/attrs"
	"consulate/path"
	"consulate/prefix"
	"consulate/update"
)

// maxBody is how many bytes stand behind a message's head at most.
const maxBody = 4077

// copiedUpdate is u in new memory.
func copiedUpdate(u update.Update) update.Update {
	return update.Update{Withdrawn: slices.Clone(u.Withdrawn), Attrs: copied(u.Attrs), Announced: slices.Clone(u.Announced)}
}

func wantBytes(t *testing.T, what string, u update.Update, four bool, b []byte, e api.Errno) {
	t.Helper()
	was := copiedUpdate(u)
	gotB, gotE := update.Bytes(u, four)
	if !same(gotB, b) || gotE != e {
		t.Errorf("%s: Bytes(%s, %v): %s, %d, want %s, %d", what, shown(u), four, shown(gotB), gotE, shown(b), e)
	}
	wantApart(t, what, []list{numbers("the answer", gotB)}, func() string { return fmt.Sprint(u) })
	if !same(u, was) {
		t.Errorf("%s: Bytes changed %s", what, shown(was))
	}
	if again, _ := update.Bytes(u, four); !same(again, b) {
		t.Errorf("%s: laid otherwise the second time", what)
	}
}

// wantEach asks the same in both sessions.
func wantEach(t *testing.T, what string, u update.Update, b []byte, e api.Errno) {
	t.Helper()
	wantBytes(t, what, u, true, b, e)
	wantBytes(t, what, u, false, b, e)
}

// least is the least that something is announced with.
func least() attrs.Attrs {
	return attrs.Attrs{Has: bits(attrs.Origin, attrs.Path, attrs.NextHop), NextHop: 0x0a000001}
}

// leastBytes is least's form, in both sessions.
const leastBytes = "40 01 01 00 40 02 00 40 03 04 0a000001"

func TestBytes(t *testing.T) {
	for _, c := range []struct {
		withdrawn, announced, text string
	}{
		{"", "", "0000 0000"},
		{"10.0.0.0/8", "", "0002 080a 0000"},
		{"0.0.0.0/0 255.255.255.255/32", "", "0006 00 20ffffffff 0000"},
		{"", "10.0.0.0/8", "0000 000e" + leastBytes + "080a"},
		{"", "0.0.0.0/0", "0000 000e" + leastBytes + "00"},
		{"11.0.0.0/8", "10.1.128.0/17 10.0.0.0/9", "0002 080b 000e" + leastBytes + "110a0180 090a00"},
		// as they stand: neither in order, nor each once
		{"11.0.0.0/8 10.0.0.0/8 11.0.0.0/8", "", "0006 080b 080a 080b 0000"},
		{"", "11.0.0.0/8 10.0.0.0/16 10.0.0.0/8 11.0.0.0/8", "0000 000e" + leastBytes + "080b 100a00 080a 080b"},
		{"11.0.0.0/8 10.0.0.0/8", "12.0.0.0/8 10.0.0.0/8", "0004 080b 080a 000e" + leastBytes + "080c 080a"},
	} {
		u := update.Update{Withdrawn: pre(t, c.withdrawn), Attrs: least(), Announced: pre(t, c.announced)}
		wantEach(t, "least", u, raw(t, c.text), api.OK)
	}
}

// TestBytesOfAll: in each session what Told tells.
func TestBytesOfAll(t *testing.T) {
	a := full(t)
	for _, four := range []bool{false, true} {
		told, e := update.Told(a, four)
		if e != api.OK || len(told) > 255 {
			t.Fatal(len(told), e)
		}
		u := update.Update{Withdrawn: pre(t, "9.0.0.0/8"), Attrs: a, Announced: pre(t, "10.0.0.0/8")}
		wantBytes(t, "all", u, four, slices.Concat([]byte{0, 2, 8, 9, 0, byte(len(told))}, told, []byte{8, 10}), api.OK)
		// without anything announced there are none
		u.Announced = nil
		wantBytes(t, "none announced", u, four, raw(t, "0002 0809 0000"), api.OK)
		u.Announced = []api.Prefix{}
		u.Withdrawn = []api.Prefix{}
		wantBytes(t, "nothing", u, four, raw(t, "0000 0000"), api.OK)
	}
}

// TestBytesPrefixes: each prefix is asked, wherever it stands.
func TestBytesPrefixes(t *testing.T) {
	for _, p := range []api.Prefix{
		{IP: 0x0a000000, Bits: 33}, {IP: 0x0a000000, Bits: -1}, {IP: 0x0a000001, Bits: 31}, {IP: 0x0a000000, Bits: 6},
		{IP: 1, Bits: 0}, {Bits: 256}, {Bits: 1 << 40}, {IP: 0x80000000, Bits: 0},
	} {
		for at := range 3 {
			l := pre(t, "10.0.0.0/8 11.0.0.0/8")
			wrong := slices.Insert(l, at, p)
			wantEach(t, "withdrawn", update.Update{Withdrawn: wrong}, nil, api.ErrArg)
			wantEach(t, "withdrawn", update.Update{Withdrawn: wrong, Attrs: least(), Announced: l}, nil, api.ErrArg)
			wantEach(t, "announced", update.Update{Attrs: least(), Announced: wrong}, nil, api.ErrArg)
			wantEach(t, "announced", update.Update{Withdrawn: l, Attrs: least(), Announced: wrong}, nil, api.ErrArg)
		}
	}
}

// TestBytesMissing: Origin, Path and NextHop, if something is announced.
func TestBytesMissing(t *testing.T) {
	announced := pre(t, "10.0.0.0/8")
	for k := range 1 << 9 {
		a := full(t)
		for typ := range byte(9) {
			if k>>typ&1 == 1 {
				a = a.Without(typ)
			}
		}
		for _, four := range []bool{false, true} {
			u := update.Update{Attrs: a, Announced: announced}
			_, e := update.Bytes(u, four)
			want := api.OK
			if k&int(bits(attrs.Origin, attrs.Path, attrs.NextHop)) != 0 {
				want = api.ErrArg
			}
			if e != want {
				t.Errorf("without %b: Bytes(.., %v) %d, want %d", k, four, e, want)
			}
			u.Announced = nil
			wantBytes(t, "none announced", u, four, raw(t, "0000 0000"), api.OK)
		}
	}
	wantEach(t, "nothing had", update.Update{Announced: announced}, nil, api.ErrArg)
	wantEach(t, "nothing had", update.Update{Withdrawn: announced, Announced: announced}, nil, api.ErrArg)
}

// TestBytesTold: what may not be told, if something is announced.
func TestBytesTold(t *testing.T) {
	announced := pre(t, "10.0.0.0/8")
	for what, a := range wrongs(t) {
		wantEach(t, what, update.Update{Attrs: a, Announced: announced}, nil, api.ErrArg)
	}
	for _, p := range []paths{{path4: "70000"}, {by4: "70000 7"}, {path4: "70000", by4: "70000 7"}} {
		wantEach(t, "beside", update.Update{Attrs: p.give(t, full(t)), Announced: announced}, nil, api.ErrArg)
	}
}

// hosts is so many bytes of prefixes: five bytes each, but for the last ones.
func hosts(n int) []api.Prefix {
	var l []api.Prefix
	for k := 0; n > 0; k++ {
		size := min(n, 5)
		if n == 6 {
			size = 3
		}
		l = append(l, prefix.Of(api.IP(k)<<8|0xff, 8*size-8))
		n -= size
	}
	return l
}

func TestHosts(t *testing.T) {
	for n := range 200 {
		if b, e := prefix.Bytes(hosts(n)...); len(b) != n || e != api.OK {
			t.Fatal(n, len(b), e)
		}
	}
}

// wantLong asks whether a body of so many bytes may be.
func wantLong(t *testing.T, what string, u update.Update, four bool, length int) {
	t.Helper()
	b, e := update.Bytes(u, four)
	if length > maxBody {
		if e != api.ErrLong || len(b) > 0 {
			t.Errorf("%s: %d bytes, %v: %d bytes, %d, want ErrLong", what, length, four, len(b), e)
		}
	} else if e != api.OK || len(b) != length {
		t.Errorf("%s: %d bytes, %v: %d bytes, %d", what, length, four, len(b), e)
	}
}

func TestBytesLong(t *testing.T) {
	for _, n := range []int{4, 5, 255, 256, 4075, 4076, 4077, 4078, 4079, 4095, 4096, 4097, 5000, 65535, 65538, 65539, 65540, 65541, 70000, 131076, 200000} {
		for _, four := range []bool{false, true} {
			wantLong(t, "withdrawn", update.Update{Withdrawn: hosts(n - 4)}, four, n)
			if n < 100 {
				continue
			}
			wantLong(t, "announced", update.Update{Attrs: least(), Announced: hosts(n - 4 - 14)}, four, n)
			u := update.Update{Withdrawn: hosts(50), Attrs: least(), Announced: hosts(n - 4 - 14 - 50)}
			wantLong(t, "both", u, four, n)
			// what is not told is not long
			u = update.Update{Withdrawn: hosts(50), Attrs: long(t, n)}
			wantLong(t, "none announced", u, four, 54)
		}
	}
}

// long is attributes of so many bytes, in both sessions.
func long(t *testing.T, n int) attrs.Attrs {
	t.Helper()
	a := least()
	n -= 14
	for typ := byte(20); n > 0; typ++ {
		size := min(n, 60000)
		head := 3
		if size > 258 {
			head = 4
		}
		a.Others = append(a.Others, attrs.Other{Flags: 0xe0, Type: typ, Value: make([]byte, size-head)})
		n -= size
	}
	return a
}

func TestBytesLongAttributes(t *testing.T) {
	for _, n := range []int{100, 255, 256, 257, 4066, 4070, 4071, 4072, 4073, 4074, 5000, 50000, 65535, 65536, 65539, 131072, 131080} {
		if b, e := update.Told(long(t, n), true); e != api.OK || len(b) != n {
			t.Fatal(n, len(b), e)
		}
		for _, four := range []bool{false, true} {
			u := update.Update{Attrs: long(t, n), Announced: pre(t, "10.0.0.0/8")}
			wantLong(t, "attributes", u, four, 4+n+2)
			u.Withdrawn = pre(t, "11.0.0.0/8 12.0.0.0/8")
			wantLong(t, "attributes", u, four, 4+n+6)
		}
	}
}

// TestBytesLongSessions: what one session can tell may be too long in the other.
func TestBytesLongSessions(t *testing.T) {
	announced := pre(t, "10.0.0.0/8")
	sequence := path.Path{{Kind: path.Sequence, Numbers: slices.Repeat([]api.AS{5}, 255)}}
	a := least()
	a.Path = slices.Repeat(sequence, 4) // 4088 bytes wide, 2048 narrow
	u := update.Update{Attrs: a, Announced: announced}
	wantLong(t, "narrow", u, true, 4+11+5+4*(2+4*255)+2-1)
	wantLong(t, "narrow", u, false, 4+11+5+4*(2+2*255)+2-1)
	a.Path = slices.Repeat(sequence, 3)
	a.Path[2].Numbers = slices.Repeat([]api.AS{70000}, 255)
	u.Attrs = a
	wantLong(t, "wide", u, true, 4+11+5+3*(2+4*255)+2-1)
	wantLong(t, "wide", u, false, 4+11+5+3*(2+2*255)+4+3*(2+4*255)+2-1)
}

// TestBytesArgAheadOfLong: what may not be is told first.
func TestBytesArgAheadOfLong(t *testing.T) {
	much, wrong := hosts(5000), append(hosts(5000), api.Prefix{Bits: 33})
	wantEach(t, "withdrawn", update.Update{Withdrawn: wrong}, nil, api.ErrArg)
	wantEach(t, "withdrawn", update.Update{Withdrawn: wrong, Attrs: least(), Announced: much}, nil, api.ErrArg)
	wantEach(t, "announced", update.Update{Withdrawn: much, Attrs: least(), Announced: wrong}, nil, api.ErrArg)
	wantEach(t, "missing", update.Update{Withdrawn: much, Announced: much}, nil, api.ErrArg)
	for what, a := range wrongs(t) {
		wantEach(t, what, update.Update{Withdrawn: much, Attrs: a, Announced: much}, nil, api.ErrArg)
	}
	a := paths{path4: "70000"}.give(t, full(t))
	wantEach(t, "beside", update.Update{Withdrawn: much, Attrs: a, Announced: much}, nil, api.ErrArg)
	wantEach(t, "long", update.Update{Withdrawn: much, Attrs: least(), Announced: much}, nil, api.ErrLong)
}
