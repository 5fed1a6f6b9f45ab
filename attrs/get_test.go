package attrs_test

import (
	"bytes"
	"encoding/hex"
	"slices"
	"strings"
	"testing"

	"consulate/api"
	"consulate/attrs"
	"consulate/path"
)

// raw is the bytes of hexadecimal digits.
func raw(t *testing.T, text string) []byte {
	t.Helper()
	b, err := hex.DecodeString(strings.ReplaceAll(text, " ", ""))
	if err != nil {
		t.Fatal(err)
	}
	return b
}

// form is an attribute's form, with the length in as many bytes as the flags say.
func form(flags, typ byte, value ...byte) []byte {
	n := len(value)
	if flags&0x10 != 0 {
		return append([]byte{flags, typ, byte(n >> 8), byte(n)}, value...)
	}
	if n > 255 {
		panic("the test's value is too long")
	}
	return append([]byte{flags, typ, byte(n)}, value...)
}

// fate is one that is no Reset.
func fate(class int) attrs.Fate { return attrs.Fate{Class: class} }

// reset is the fate of an attribute of that form.
func reset(form ...byte) attrs.Fate {
	return attrs.Fate{Class: attrs.Reset, Fault: api.Fault{Code: 3, Sub: 2}, Data: form}
}

func sameFate(f, g attrs.Fate) bool {
	return f.Class == g.Class && f.Fault == g.Fault && bytes.Equal(f.Data, g.Data)
}

func wantGet(t *testing.T, what string, b []byte, four, outside bool, a attrs.Attrs, f attrs.Fate) {
	t.Helper()
	was := bytes.Clone(b)
	gotA, gotF := attrs.Get(b, four, outside)
	if !same(gotA, a) || !sameFate(gotF, f) {
		t.Errorf("%s: Get(%s, %v, %v): %s, %s, want %s, %s", what, shown(hex.EncodeToString(b)), four, outside, shown(gotA), shown(gotF), shown(a), shown(f))
	}
	if !bytes.Equal(b, was) {
		t.Errorf("%s: Get changed % x", what, was)
	}
}

// wantEach asks in each session, from outside or not.
func wantEach(t *testing.T, what string, b []byte, a attrs.Attrs, f attrs.Fate) {
	t.Helper()
	for k := range 4 {
		wantGet(t, what, b, k&1 != 0, k&2 != 0, a, f)
	}
}

func TestGetExamples(t *testing.T) {
	none, origin := attrs.Attrs{}, attrs.Attrs{Has: bits(1)}
	other := attrs.Attrs{Others: []attrs.Other{{Flags: 0xe0, Type: 0x63, Value: []byte{7}}}}
	for _, c := range []struct {
		text string
		a    attrs.Attrs
		f    attrs.Fate
	}{
		{"", none, fate(attrs.None)},
		{"40 01 01 00", origin, fate(attrs.None)},
		{"40 01 01 03", none, fate(attrs.Withdraw)},
		{"80 01 01 00", none, fate(attrs.Withdraw)},
		{"40 01 02 00", none, fate(attrs.Withdraw)},
		{"40 05 01 07", none, fate(attrs.Discard)},
		{"40 63 00", none, reset(0x40, 0x63, 0)},
		{"c0 63 01 07", other, fate(attrs.None)},
	} {
		wantGet(t, "example", raw(t, c.text), true, true, c.a, c.f)
	}
	wantEach(t, "nothing", nil, none, fate(attrs.None))
	wantEach(t, "nothing", []byte{}, none, fate(attrs.None))
}

// value is one that a known type may have, in a session, and what it says.
type value struct {
	typ   byte
	bytes string
	a     attrs.Attrs
}

// values are right ones of each known type, in a session of four bytes or not.
func values(t *testing.T, four bool) []value {
	t.Helper()
	l := []value{
		{1, "00", attrs.Attrs{}},
		{1, "02", attrs.Attrs{Origin: 2}},
		{2, "", attrs.Attrs{}},
		{3, "01000000", attrs.Attrs{NextHop: 0x01000000}},
		{3, "dfffffff", attrs.Attrs{NextHop: 0xdfffffff}},
		{3, "7e010203", attrs.Attrs{NextHop: 0x7e010203}},
		{3, "80000000", attrs.Attrs{NextHop: 0x80000000}},
		{4, "00000000", attrs.Attrs{}},
		{4, "fedcba98", attrs.Attrs{Med: 0xfedcba98}},
		{5, "00000000", attrs.Attrs{}},
		{5, "01020304", attrs.Attrs{Pref: 0x01020304}},
		{6, "", attrs.Attrs{}},
		{8, "00000000", attrs.Attrs{Communities: []uint32{0}}},
		{8, "ffffff01 0001000a ffffff01", attrs.Attrs{Communities: []uint32{0xffffff01, 0x0001000a, 0xffffff01}}},
		{17, "01 01 00000000", attrs.Attrs{Path4: of(t, "{0}")}},
		{17, "02 02 00011170 0000000a", attrs.Attrs{Path4: of(t, "70000 10")}},
		{17, "03 01 00000007 02 01 00011170 04 02 00000001 00000002 01 01 00000009", attrs.Attrs{Path4: of(t, "70000 {9}")}},
		{18, "00011170 7f000001", attrs.Attrs{By4: attrs.By{AS: 70000, IP: 0x7f000001}}},
		{18, "00000000 00000000", attrs.Attrs{}},
	}
	if four {
		return append(l,
			value{2, "02 02 00011170 0000000a", attrs.Attrs{Path: of(t, "70000 10")}},
			value{2, "03 01 00000007 04 01 fffffffe 01 01 00000009", attrs.Attrs{Path: of(t, "(7) [4294967294] {9}")}},
			value{7, "00011170 01020304", attrs.Attrs{By: attrs.By{AS: 70000, IP: 0x01020304}}},
			value{7, "00000000 00000000", attrs.Attrs{}})
	}
	return append(l,
		value{2, "02 02 5ba0 000a", attrs.Attrs{Path: of(t, "23456 10")}},
		value{2, "03 01 0007 04 01 fffe 01 01 0009", attrs.Attrs{Path: of(t, "(7) [65534] {9}")}},
		value{7, "5ba0 01020304", attrs.Attrs{By: attrs.By{AS: 23456, IP: 0x01020304}}},
		value{7, "0000 00000000", attrs.Attrs{}})
}

// passedOver tells whether a type is Discard whatever its value is.
func passedOver(typ byte, four, outside bool) bool {
	return outside && typ == 5 || four && (typ == 17 || typ == 18)
}

// mild tells whether a wrong value of that type is Discard.
func mild(typ byte, outside bool) bool {
	return outside && typ == 5 || slices.Contains([]byte{6, 7, 17, 18}, typ)
}

// wrong is what comes of a wrong value.
func wrong(typ byte, outside bool) attrs.Fate {
	if mild(typ, outside) {
		return fate(attrs.Discard)
	}
	return fate(attrs.Withdraw)
}

// TestGetValues: right values, in each session, with all flags that may be.
func TestGetValues(t *testing.T) {
	for k := range 4 {
		four, outside := k&1 != 0, k&2 != 0
		for _, v := range values(t, four) {
			a, f := v.a, fate(attrs.None)
			a.Has = bits(v.typ)
			if passedOver(v.typ, four, outside) {
				a, f = attrs.Attrs{}, fate(attrs.Discard)
			}
			for flags := range 256 {
				b := form(byte(flags), v.typ, raw(t, v.bytes)...)
				if byte(flags)&0xc0 == flagsOf(v.typ) {
					wantGet(t, "right", b, four, outside, a, f)
				} else {
					wantGet(t, "other flags", b, four, outside, attrs.Attrs{}, fate(attrs.Withdraw))
				}
			}
		}
	}
}

// TestGetLengths: each type with values of every small length of noughts, and
// of right beginnings.
func TestGetLengths(t *testing.T) {
	fits := func(typ byte, n int, four bool) bool {
		switch typ {
		case 1:
			return n == 1
		case 4, 5:
			return n == 4
		case 2, 6:
			return n == 0 // noughts are no path
		case 7:
			return four && n == 8 || !four && n == 6
		case 8:
			return n > 0 && n%4 == 0
		case 18:
			return n == 8
		}
		return false // noughts are no host, and no path
	}
	for k := range 4 {
		four, outside := k&1 != 0, k&2 != 0
		for _, known := range knowns {
			for n := range 256 {
				b := form(known.flags, known.typ, make([]byte, n)...)
				a, f := attrs.Attrs{}, wrong(known.typ, outside)
				switch {
				case passedOver(known.typ, four, outside):
					f = fate(attrs.Discard)
				case fits(known.typ, n, four):
					a.Has, f = bits(known.typ), fate(attrs.None)
					if known.typ == 8 {
						a.Communities = make([]uint32, n/4)
					}
				}
				wantGet(t, "noughts", b, four, outside, a, f)
			}
		}
		for _, v := range values(t, four) {
			whole := raw(t, v.bytes)
			for n := range len(whole) + 3 {
				part := append(bytes.Clone(whole), 0, 0)[:n]
				// of these a part is right, too
				if n == len(whole) || v.typ == 8 && n > 0 && n%4 == 0 || v.typ == 2 && n == 0 ||
					v.typ == 2 && n < len(whole) && len(part) > 0 && isPath(part, four) || v.typ == 17 && n < len(whole) && isPath(part, true) && len(v.a.Path4) > 1 {
					continue
				}
				f := wrong(v.typ, outside)
				if passedOver(v.typ, four, outside) {
					f = fate(attrs.Discard)
				}
				wantGet(t, "another length", form(flagsOf(v.typ), v.typ, part...), four, outside, attrs.Attrs{}, f)
			}
		}
	}
}

// isPath tells whether b is a path's form.
func isPath(b []byte, wide bool) bool {
	_, e := path.Read(b, wide)
	return e == api.OK
}

func TestGetOriginAndNextHop(t *testing.T) {
	for n := range 256 {
		a, f := attrs.Attrs{Has: bits(1), Origin: byte(n)}, fate(attrs.None)
		if n > 2 {
			a, f = attrs.Attrs{}, fate(attrs.Withdraw)
		}
		wantEach(t, "Origin", form(0x40, 1, byte(n)), a, f)
		for _, low := range []byte{0, 1, 255} {
			a, f := attrs.Attrs{Has: bits(3), NextHop: api.IP(n)<<24 | api.IP(low)}, fate(attrs.None)
			if n == 0 || n == 127 || n > 223 {
				a, f = attrs.Attrs{}, fate(attrs.Withdraw)
			}
			wantEach(t, "NextHop", form(0x40, 3, byte(n), 0, 0, low), a, f)
		}
	}
}

// TestGetPaths: what path.Read says, in numbers of two or four bytes.
func TestGetPaths(t *testing.T) {
	for _, text := range []string{
		"", "02", "02 00", "02 01", "02 01 00", "02 01 0001", "02 01 0001 00", "02 01 00000001", "02 01 00000001 02 01 0001",
		"02 02 00000001", "02 02 0000000100000002", "00 01 0001", "05 01 0001", "00 01 00000001", "05 01 00000001",
		"03 01 00000001", "04 01 00000001", "03 01 0001", "01 00", "01 01 0001 01 00", "03 01 00000001 02 00",
		"03 01 00000001 05 01 00000001", "03 01 00000001 04 01 00000002 03 01 00000003", "03 01 00000001 01 01 00000002",
		strings.Repeat("01 01 0001", 32), strings.Repeat("01 01 0001", 33), strings.Repeat("01 01 00000001", 32),
		strings.Repeat("01 01 00000001", 33), strings.Repeat("03 01 00000001", 32) + "01 01 00000001",
		strings.Repeat("03 01 00000001", 31) + "01 01 00000001",
	} {
		v := raw(t, text)
		for _, four := range []bool{false, true} {
			a, f := attrs.Attrs{}, fate(attrs.Withdraw)
			if p, e := path.Read(v, four); e == api.OK {
				a, f = attrs.Attrs{Has: bits(2), Path: p}, fate(attrs.None)
			}
			wantGet(t, "Path", form(0x50, 2, v...), four, true, a, f)
			wantGet(t, "Path", form(0x50, 2, v...), four, false, a, f)
		}
		a, f := attrs.Attrs{}, fate(attrs.Discard)
		p, e := path.Read(v, true)
		p = slices.DeleteFunc(p, func(s path.Segment) bool { return s.Kind == 3 || s.Kind == 4 })
		if e == api.OK && len(p) > 0 {
			a, f = attrs.Attrs{Has: bits(17), Path4: p}, fate(attrs.None)
		}
		wantGet(t, "Path4", form(0xd0, 17, v...), false, true, a, f)
		wantGet(t, "Path4", form(0xd0, 17, v...), false, false, a, f)
		wantGet(t, "Path4", form(0xd0, 17, v...), true, true, attrs.Attrs{}, fate(attrs.Discard))
		wantGet(t, "Path4", form(0xd0, 17, v...), true, false, attrs.Attrs{}, fate(attrs.Discard))
	}
}

// TestGetPrefFromOutside: whatever its value is; but flags are asked ahead.
func TestGetPrefFromOutside(t *testing.T) {
	for n := range 20 {
		v := slices.Repeat([]byte{1}, n)
		b := slices.Concat(form(0x40, 5, v...), form(0x40, 1, 2))
		origin := attrs.Attrs{Has: bits(1), Origin: 2}
		for _, four := range []bool{false, true} {
			wantGet(t, "from outside", b, four, true, origin, fate(attrs.Discard))
			if n == 4 {
				all := attrs.Attrs{Has: bits(1, 5), Origin: 2, Pref: 0x01010101}
				wantGet(t, "from inside", b, four, false, all, fate(attrs.None))
			} else {
				wantGet(t, "from inside", b, four, false, attrs.Attrs{}, fate(attrs.Withdraw))
			}
		}
		for _, flags := range []byte{0, 0x80, 0xc0} {
			wantEach(t, "other flags", form(flags, 5, v...), attrs.Attrs{}, fate(attrs.Withdraw))
		}
	}
}

// TestGetUnknown: each type that is not known, with all flags.
func TestGetUnknown(t *testing.T) {
	for k := range 256 {
		typ := byte(k)
		if flagsOf(typ) != 0 {
			continue
		}
		for flags := range 256 {
			for _, v := range [][]byte{nil, {typ}, {0x40, 1, 1}} {
				b := form(byte(flags), typ, v...)
				a, f := attrs.Attrs{}, fate(attrs.None)
				switch {
				case flags&0x80 == 0:
					f = reset(b...)
				case flags&0x40 != 0:
					a.Others = []attrs.Other{{Flags: 0xe0, Type: typ, Value: v}}
				}
				wantGet(t, "unknown", b, typ&1 != 0, flags&1 != 0, a, f)
			}
		}
	}
}

// TestGetOthersInOrder: in whichever order they stand, and whatever is between.
func TestGetOthersInOrder(t *testing.T) {
	draw := draws(1)
	for range 300 {
		types := []byte{0, 9, 16, 19, 20, 99, 200, 255}
		want := attrs.Attrs{Has: bits(1, 6), Origin: 1}
		for _, typ := range types {
			want.Others = append(want.Others, attrs.Other{Flags: 0xe0, Type: typ, Value: []byte{typ, 1}})
		}
		types = append(types, 1, 6, 100)
		for k := range types {
			j := draw(k + 1)
			types[k], types[j] = types[j], types[k]
		}
		var b []byte
		for _, typ := range types {
			switch typ {
			case 1:
				b = append(b, form(0x40, 1, 1)...)
			case 6:
				b = append(b, form(0x40, 6)...)
			case 100:
				b = append(b, form(0x80, 100, 3)...)
			default:
				b = append(b, form([]byte{0xc0, 0xe0, 0xcf}[draw(3)], typ, typ, 1)...)
			}
		}
		wantEach(t, "others", b, want, fate(attrs.None))
	}
}

// TestGetLong: values of many bytes, their length in two.
func TestGetLong(t *testing.T) {
	for _, n := range []int{255, 256, 1000, 65534, 65535} {
		v := bytes.Repeat([]byte{9}, n)
		a := attrs.Attrs{Has: bits(1), Others: []attrs.Other{{Flags: 0xe0, Type: 9, Value: v}}}
		wantEach(t, "long", slices.Concat(form(0xd0, 9, v...), form(0x50, 1, 0)), a, fate(attrs.None))
		wantEach(t, "a long Reset", form(0x10, 9, v...), attrs.Attrs{}, reset(form(0x10, 9, v...)...))
		wantEach(t, "long, cut short", form(0xd0, 9, v...)[:n+3], attrs.Attrs{}, fate(attrs.Withdraw))
	}
	for _, n := range []int{63, 64, 16383} {
		a := attrs.Attrs{Has: bits(8), Communities: make([]uint32, n)}
		wantEach(t, "communities", form(0xd0, 8, make([]byte, 4*n)...), a, fate(attrs.None))
	}
}

// TestGetCutShort: each cut of a row is Withdraw, but for those between two
// attributes; and so is a length that is told too great.
func TestGetCutShort(t *testing.T) {
	rows := [][]byte{
		form(0x40, 1, 1), form(0x50, 3, 10, 0, 0, 1), form(0xc0, 99, 1, 2, 3), form(0x40, 6),
		form(0x80, 98, 1), form(0xd0, 97), form(0x80, 4, 0, 0, 0, 5),
	}
	var ends []int
	row := slices.Concat(rows...)
	at := 0
	for _, r := range rows {
		at += len(r)
		ends = append(ends, at)
	}
	for n := range len(row) {
		_, f := attrs.Get(row[:n], true, true)
		if n == 0 || slices.Contains(ends, n) {
			if f.Class != attrs.None {
				t.Errorf("cut at %d: %s", n, shown(f))
			}
			continue
		}
		wantEach(t, "cut", row[:n], attrs.Attrs{}, fate(attrs.Withdraw))
	}
	// whatever its type and flags are
	for k := range 1 << 16 {
		flags, typ := byte(k>>8), byte(k)
		b := form(flags, typ, 1, 2, 3, 4)
		wantGet(t, "value cut short", b[:len(b)-1-k%4], k&1 != 0, k&2 != 0, attrs.Attrs{}, fate(attrs.Withdraw))
		wantGet(t, "head cut short", b[:1+k%2], k&1 != 0, k&2 != 0, attrs.Attrs{}, fate(attrs.Withdraw))
		if flags&0x10 != 0 {
			wantGet(t, "length cut short", b[:3], k&1 != 0, k&2 != 0, attrs.Attrs{}, fate(attrs.Withdraw))
		}
	}
	// a type that was there, cut short
	wantEach(t, "again", append(form(0x40, 1, 1), 0x40, 1, 1), attrs.Attrs{}, fate(attrs.Withdraw))
}

// TestGetAgain: a type that was there already is passed over, whatever the
// first one, and the second one, is.
func TestGetAgain(t *testing.T) {
	origin := attrs.Attrs{Has: bits(1), Origin: 1}
	other := attrs.Attrs{Others: []attrs.Other{{Flags: 0xe0, Type: 99, Value: []byte{1}}}}
	for _, c := range []struct {
		what, text string
		a          attrs.Attrs
		f          attrs.Fate
	}{
		{"the same", "400101 01 400101 01", origin, fate(attrs.Discard)},
		{"another value", "400101 01 400101 02", origin, fate(attrs.Discard)},
		{"a wrong value", "400101 01 400101 03", origin, fate(attrs.Discard)},
		{"other flags", "400101 01 000101 01", origin, fate(attrs.Discard)},
		{"three times", "400101 01 400101 02 400101 00", origin, fate(attrs.Discard)},
		{"others", "c06301 01 c06301 02", other, fate(attrs.Discard)},
		{"others, not Transitive", "c06301 01 806301 02", other, fate(attrs.Discard)},
		{"others, not Optional", "c06301 01 406301 02", other, fate(attrs.Discard)},
		{"passed over ahead", "806301 01 c06301 02", attrs.Attrs{}, fate(attrs.Discard)},
		{"passed over ahead, not Optional", "806301 01 006301 02", attrs.Attrs{}, fate(attrs.Discard)},
		{"passed over twice", "806301 01 806301 01", attrs.Attrs{}, fate(attrs.Discard)},
		{"wrong ahead", "400601 01 4006 00", attrs.Attrs{}, fate(attrs.Discard)},
		{"wrong ahead, to be withdrawn", "400101 03 400101 01", attrs.Attrs{}, fate(attrs.Withdraw)},
		{"a Reset behind", "400101 01 400101 01 0063 00", attrs.Attrs{}, reset(0, 0x63, 0)},
	} {
		wantEach(t, c.what, raw(t, c.text), c.a, c.f)
	}
	for k := range 256 {
		typ := byte(k)
		flags := flagsOf(typ)
		if flags == 0 {
			flags = 0xc0
		}
		for _, v := range [][]byte{nil, {1}, {10, 0, 0, 1}} {
			b := form(flags, typ, v...)
			for k := range 4 {
				four, outside := k&1 != 0, k&2 != 0
				a, f := attrs.Get(b, four, outside)
				f.Class = max(f.Class, attrs.Discard)
				wantGet(t, "again", slices.Concat(b, b), four, outside, a, f)
				wantGet(t, "again, otherwise", slices.Concat(b, form(0, typ, 77)), four, outside, a, f)
			}
		}
	}
}

// TestGetGoesOn: what is passed over ends nothing; a wrong value doesn't,
// either; other flags do.
func TestGetGoesOn(t *testing.T) {
	none, med := attrs.Attrs{}, attrs.Attrs{Has: bits(4), Med: 5}
	tail := form(0x80, 4, 0, 0, 0, 5)
	for _, c := range []struct {
		what string
		b    []byte
		a    attrs.Attrs
		f    attrs.Fate
		ends bool
	}{
		{"nothing", nil, med, fate(attrs.None), false},
		{"Atomic with a value", form(0x40, 6, 1), med, fate(attrs.Discard), false},
		{"a short Aggregator", form(0xc0, 7, 1), med, fate(attrs.Discard), false},
		{"a short Path4", form(0xc0, 17, 1), med, fate(attrs.Discard), false},
		{"a short Aggregator4", form(0xc0, 18, 1), med, fate(attrs.Discard), false},
		{"an Origin that is none", form(0x40, 1, 9), none, fate(attrs.Withdraw), false},
		{"a wrong path", form(0x40, 2, 9), none, fate(attrs.Withdraw), false},
		{"no host", form(0x40, 3, 0, 0, 0, 0), none, fate(attrs.Withdraw), false},
		{"no communities", form(0xc0, 8), none, fate(attrs.Withdraw), false},
		{"neither known nor transitive", form(0x80, 99), med, fate(attrs.None), false},
		{"other flags", form(0xc0, 1, 0), none, fate(attrs.Withdraw), true},
		{"unknown", form(0x40, 99, 1), none, reset(0x40, 99, 1, 1), true},
	} {
		wantEach(t, c.what, slices.Concat(c.b, tail), c.a, c.f)
		// a Reset behind is greater, where it is read at all
		f := reset(0, 100, 1, 7)
		if c.ends {
			f = c.f
		}
		wantEach(t, c.what+", and a Reset", slices.Concat(c.b, tail, form(0, 100, 7)), none, f)
		// and so is a Withdraw
		f = fate(max(c.f.Class, attrs.Withdraw))
		if c.f.Class == attrs.Reset {
			f = c.f
		}
		wantEach(t, c.what+", and cut short", slices.Concat(c.b, tail, []byte{0x40}), none, f)
		wantEach(t, c.what+", and other flags", slices.Concat(c.b, form(0x40, 4), form(0, 100, 7)), none, f)
	}
}

// TestGetNewMemory: what was answered hangs on nothing any more.
func TestGetNewMemory(t *testing.T) {
	for _, four := range []bool{false, true} {
		b, e := attrs.Put(full(t), false)
		if four {
			b, e = attrs.Put(full(t), true)
		}
		if e != api.OK {
			t.Fatal(e)
		}
		was := bytes.Clone(b)
		a, _ := attrs.Get(b, four, false)
		c, _ := attrs.Get(b, four, false)
		wantNew(t, a, c)
		a, _ = attrs.Get(b, four, false)
		if !bytes.Equal(b, was) {
			t.Error("the bytes have changed")
		}
		clear(b)
		if !same(a, c) {
			t.Error("the bytes were kept")
		}
	}
	b := form(0, 99, 1, 2, 3)
	_, f := attrs.Get(b, true, true)
	turn(f.Data)
	if !bytes.Equal(b, form(0, 99, 1, 2, 3)) {
		t.Error("the data are the bytes that were handed in")
	}
	turn(f.Data)
	clear(b)
	if !bytes.Equal(f.Data, form(0, 99, 1, 2, 3)) {
		t.Error("the bytes that were handed in were kept")
	}
}
