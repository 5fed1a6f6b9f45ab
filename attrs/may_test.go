package attrs_test

import (
	"bytes"
	"slices"
	"testing"

	"consulate/api"
	"consulate/attrs"
	"consulate/path"
)

func wantMay(t *testing.T, what string, a attrs.Attrs, want bool) {
	t.Helper()
	was := copied(a)
	if got := a.May(); got != want {
		t.Errorf("%s: May is %v of %s", what, got, shown(a))
	}
	if !same(a, was) {
		t.Errorf("%s: May changed %s", what, shown(was))
	}
	for _, four := range []bool{false, true} {
		b, e := attrs.Put(a, four)
		if want == (e == api.ErrArg) || e != api.OK && len(b) > 0 {
			t.Errorf("%s: Put answers %d bytes, %d", what, len(b), e)
		}
	}
}

// segments is a path of so many segments of these.
func segments(n int, s path.Segment) path.Path { return slices.Repeat(path.Path{s}, n) }

// seg is a segment of n numbers.
func seg(kind byte, n int) path.Segment {
	return path.Segment{Kind: kind, Numbers: slices.Repeat([]api.AS{7}, n)}
}

func TestMay(t *testing.T) {
	wantMay(t, "nothing", attrs.Attrs{}, true)
	wantMay(t, "all", full(t), true)
	empty := attrs.Attrs{Path: path.Path{}, Communities: []uint32{}, Path4: path.Path{}, Others: []attrs.Other{}}
	wantMay(t, "empty lists", empty, true)
	for k := range 1 << len(knowns) {
		a := full(t)
		for j, known := range knowns {
			if k>>j&1 == 0 {
				a = less(a, known.typ)
			}
		}
		wantMay(t, "some", a, true)
	}
}

// TestMayBits: each bit apart, and what is said without it.
func TestMayBits(t *testing.T) {
	for k := range 32 {
		bit := uint32(1) << k
		a := full(t)
		a.Has ^= bit
		// what tells nothing but that it is there may just as well not be
		wantMay(t, "all, with another bit", a, k == attrs.Atomic)
		ok := flagsOf(byte(k)) != 0 && k != attrs.NextHop && k != attrs.Communities && k != attrs.Path4
		wantMay(t, "a bit, and nothing said", attrs.Attrs{Has: bit}, ok)
	}
	for _, known := range knowns {
		a := less(full(t), known.typ)
		a.Has |= bits(known.typ)
		ok := known.typ != attrs.NextHop && known.typ != attrs.Communities && known.typ != attrs.Path4
		wantMay(t, "all, with one that says nothing", a, ok)
	}
}

func TestMaySaidWithoutHas(t *testing.T) {
	p := path.Of(path.Sequence, 1)
	for what, a := range map[string]attrs.Attrs{
		"Origin":         {Origin: 1},
		"Path":           {Path: p},
		"a wrong Path":   {Path: path.Path{{}}},
		"NextHop":        {NextHop: 0x0a000001},
		"Med":            {Med: 1},
		"Pref":           {Pref: 1},
		"By.AS":          {By: attrs.By{AS: 1}},
		"By.IP":          {By: attrs.By{IP: 1}},
		"Communities":    {Communities: []uint32{0}},
		"Path4":          {Path4: p},
		"a wrong Path4":  {Path4: path.Path{{}}},
		"By4.AS":         {By4: attrs.By{AS: 1}},
		"By4.IP":         {By4: attrs.By{IP: 1}},
		"all, no bits":   func() attrs.Attrs { a := full(t); a.Has = 0; return a }(),
		"an other's bit": {Has: 1 << 9, Others: []attrs.Other{{Flags: 0xc0, Type: 9}}},
	} {
		wantMay(t, what, a, false)
	}
}

func TestMayOriginAndNumbers(t *testing.T) {
	for n := range 256 {
		wantMay(t, "Origin", attrs.Attrs{Has: bits(1), Origin: byte(n)}, n <= 2)
		for _, low := range []api.IP{0, 1, 0xffffff} {
			ip := api.IP(n)<<24 | low
			wantMay(t, "NextHop", attrs.Attrs{Has: bits(3), NextHop: ip}, n >= 1 && n <= 223 && n != 127)
			wantMay(t, "the Aggregator's IP", attrs.Attrs{Has: bits(7), By: attrs.By{IP: ip}}, true)
			wantMay(t, "the wide Aggregator's IP", attrs.Attrs{Has: bits(18), By4: attrs.By{AS: api.AS(ip), IP: ip}}, true)
		}
	}
	for _, n := range []uint32{0, 1, 65535, 65536, 1 << 31, 1<<32 - 1} {
		wantMay(t, "Med", attrs.Attrs{Has: bits(4), Med: n}, true)
		wantMay(t, "Pref", attrs.Attrs{Has: bits(5), Pref: n}, true)
		wantMay(t, "Communities", attrs.Attrs{Has: bits(8), Communities: []uint32{n, n, 0}}, true)
	}
}

// TestMayCommunities: one at least, and no more than a value has bytes for.
func TestMayCommunities(t *testing.T) {
	for n, want := range map[int]bool{0: false, 1: true, 2: true, 63: true, 64: true, 16382: true, 16383: true, 16384: false, 16385: false, 40000: false} {
		wantMay(t, "communities", attrs.Attrs{Has: bits(8), Communities: make([]uint32, n)}, want)
	}
}

func TestMayPaths(t *testing.T) {
	for _, c := range []struct {
		what        string
		p           path.Path
		path, path4 bool
	}{
		{"none", nil, true, false},
		{"Set", segments(1, seg(1, 1)), true, true},
		{"Sequence", segments(1, seg(2, 1)), true, true},
		{"ConfedSequence", segments(1, seg(3, 1)), true, false},
		{"ConfedSet", segments(1, seg(4, 1)), true, false},
		{"kind 0", segments(1, seg(0, 1)), false, false},
		{"kind 5", segments(1, seg(5, 1)), false, false},
		{"confed ahead", path.Path{seg(3, 1), seg(2, 1)}, true, false},
		{"confed behind", path.Path{seg(2, 1), seg(4, 1)}, true, false},
		{"wrong behind", path.Path{seg(2, 1), seg(0, 1)}, false, false},
		{"no numbers", segments(1, seg(2, 0)), false, false},
		{"255 numbers", segments(1, seg(2, 255)), true, true},
		{"256 numbers", segments(1, seg(2, 256)), false, false},
		{"32 segments", segments(32, seg(2, 255)), true, true},
		{"33 segments", segments(33, seg(1, 1)), false, false},
		{"33 segments, one confed", append(segments(32, seg(1, 1)), seg(3, 1)), false, false},
	} {
		wantMay(t, c.what, attrs.Attrs{Has: bits(2), Path: c.p}, c.path)
		wantMay(t, c.what+", beside", attrs.Attrs{Has: bits(17), Path4: c.p}, c.path4)
	}
}

func TestMayOthers(t *testing.T) {
	of := func(l ...attrs.Other) attrs.Attrs { return attrs.Attrs{Others: l} }
	other := func(typ byte) attrs.Other { return attrs.Other{Flags: 0xc0, Type: typ} }
	for k := range 256 {
		n := byte(k)
		wantMay(t, "flags", of(attrs.Other{Flags: n, Type: 9}), n == 0xc0 || n == 0xe0)
		wantMay(t, "type", of(other(n)), flagsOf(n) == 0)
		wantMay(t, "a second one's flags", of(other(9), attrs.Other{Flags: n, Type: 10}), n == 0xc0 || n == 0xe0)
		if n != 100 && flagsOf(n) == 0 {
			wantMay(t, "a second one", of(other(n), other(100)), n < 100)
			wantMay(t, "a third one", of(other(0), other(100), other(n)), n > 100)
		}
	}
	wantMay(t, "one twice", of(other(9), other(9)), false)
	wantMay(t, "one twice, with another flag", of(other(9), attrs.Other{Flags: 0xe0, Type: 9, Value: []byte{1}}), false)
	wantMay(t, "one twice, apart", of(other(9), other(10), other(9)), false)
	for _, n := range []int{0, 1, 255, 256, 65534, 65535, 65536, 70000, 1 << 17} {
		long := attrs.Other{Flags: 0xe0, Type: 9, Value: bytes.Repeat([]byte{1}, n)}
		wantMay(t, "value", of(long), n <= 65535)
		wantMay(t, "value between", of(other(0), long, other(10)), n <= 65535)
	}
	// all together may have more
	var l []attrs.Other
	for typ := 19; typ < 24; typ++ {
		l = append(l, attrs.Other{Flags: 0xc0, Type: byte(typ), Value: make([]byte, 65535)})
	}
	wantMay(t, "many long ones", of(l...), true)
}
