package attrs_test

import (
	"bytes"
	"slices"
	"testing"

	"consulate/api"
	"consulate/attrs"
	"consulate/path"
)

// drawnPath is one of up to so many segments, of these kinds, of numbers below
// top.
func drawnPath(draw func(n int) int, many, top int, kinds ...byte) path.Path {
	var p path.Path
	for range draw(many + 1) {
		s := path.Segment{Kind: kinds[draw(len(kinds))]}
		for range draw(4) + 1 {
			s.Numbers = append(s.Numbers, api.AS(draw(top)))
		}
		p = append(p, s)
	}
	return p
}

// drawn is attributes that may be; in a session without four those that can be
// told.
func drawn(draw func(n int) int, four bool) attrs.Attrs {
	top := 1 << 16
	if four {
		top = 1 << 24
	}
	a := attrs.Attrs{
		Has:     uint32(draw(1<<9)) &^ 1,
		Origin:  byte(draw(3)),
		Path:    drawnPath(draw, 4, top, 1, 2, 3, 4),
		NextHop: api.IP(draw(126)+1)<<24 | api.IP(draw(1<<24)),
		Med:     uint32(draw(1 << 24)),
		Pref:    uint32(draw(1<<24)) << 8,
		By:      attrs.By{AS: api.AS(draw(top)), IP: api.IP(draw(1<<24)) << 4},
		Path4:   drawnPath(draw, 3, 1<<24, 1, 2),
		By4:     attrs.By{AS: api.AS(draw(1 << 24)), IP: api.IP(draw(1<<24)) << 8},
	}
	a.Has |= uint32(draw(4)) << 17
	for range draw(100) + 1 {
		a.Communities = append(a.Communities, uint32(draw(1<<24)))
	}
	if len(a.Path4) == 0 {
		a.Has &^= bits(17)
	}
	for _, k := range knowns {
		if a.Has&bits(k.typ) == 0 {
			a = less(a, k.typ)
		}
	}
	for typ := draw(40); typ < 256; typ += 1 + draw(60) {
		if flagsOf(byte(typ)) == 0 {
			v := slices.Repeat([]byte{byte(draw(256))}, draw(300))
			a.Others = append(a.Others, attrs.Other{Flags: []byte{0xc0, 0xe0}[draw(2)], Type: byte(typ), Value: v})
		}
	}
	return a
}

// TestThereAndBack: P10.4.
func TestThereAndBack(t *testing.T) {
	draw := draws(2)
	for k := range 2000 {
		four, outside := k&1 != 0, k&2 != 0
		a := drawn(draw, four)
		if outside {
			a = less(a, attrs.Pref)
		}
		b, e := attrs.Put(a, four)
		if e != api.OK {
			t.Fatalf("Put(%s, %v): %d", shown(a), four, e)
		}
		want := copied(a)
		for j := range want.Others {
			want.Others[j].Flags = 0xe0
		}
		if four {
			want = less(less(want, 17), 18)
		}
		wantGet(t, "there and back", b, four, outside, want, fate(attrs.None))
		// once more, nothing changes any more
		wantPut(t, "back again", want, four, again(t, want, b), api.OK)
		if t.Failed() {
			t.FailNow()
		}
	}
}

// again is b, but the others that want has Partial are so there.
func again(t *testing.T, want attrs.Attrs, b []byte) []byte {
	t.Helper()
	b = bytes.Clone(b)
	for at := 0; at < len(b); {
		flags, typ, n := b[at], b[at+1], 3+int(b[at+2])
		if flags&0x10 != 0 {
			n = 4 + int(b[at+2])<<8 + int(b[at+3])
		}
		if flagsOf(typ) == 0 {
			b[at] |= 0x20
		}
		at += n
	}
	return b
}

// model reads as the chapter says it, without the package's means.
func model(b []byte, four, outside bool) (attrs.Attrs, attrs.Fate) {
	var a attrs.Attrs
	class, there := 0, map[byte]bool{}
	withdraw := fate(attrs.Withdraw)
	for at := 0; at < len(b); {
		left := b[at:]
		if len(left) < 3 || left[0]&0x10 != 0 && len(left) < 4 {
			return attrs.Attrs{}, withdraw
		}
		flags, typ, head, n := left[0], left[1], 3, int(left[2])
		if flags&0x10 != 0 {
			head, n = 4, n*256+int(left[3])
		}
		if len(left) < head+n {
			return attrs.Attrs{}, withdraw
		}
		v := left[head : head+n]
		at += head + n
		known := flagsOf(typ)
		switch {
		case there[typ]:
			class = max(class, attrs.Discard)
		case known != 0 && known != flags&0xc0:
			return attrs.Attrs{}, withdraw
		case known != 0 && passedOver(typ, four, outside):
			class = max(class, attrs.Discard)
		case known != 0:
			if says(&a, typ, v, four) {
				a.Has |= bits(typ)
			} else {
				class = max(class, wrong(typ, outside).Class)
			}
		case flags&0x80 == 0:
			return attrs.Attrs{}, reset(left[:head+n]...)
		case flags&0x40 != 0:
			a.Others = append(a.Others, attrs.Other{Flags: 0xe0, Type: typ, Value: v})
		}
		there[typ] = true
	}
	if class == attrs.Withdraw {
		return attrs.Attrs{}, withdraw
	}
	slices.SortFunc(a.Others, func(o, p attrs.Other) int { return int(o.Type) - int(p.Type) })
	return a, fate(class)
}

// says gives a what v says, if it is as it must be.
func says(a *attrs.Attrs, typ byte, v []byte, four bool) bool {
	four32 := func(from int) uint32 {
		return uint32(v[from])<<24 | uint32(v[from+1])<<16 | uint32(v[from+2])<<8 | uint32(v[from+3])
	}
	switch typ {
	case 1:
		if len(v) == 1 && v[0] < 3 {
			a.Origin = v[0]
			return true
		}
	case 2:
		p, e := path.Read(v, four)
		a.Path = p
		return e == api.OK
	case 3:
		if len(v) == 4 && v[0] > 0 && v[0] < 224 && v[0] != 127 {
			a.NextHop = api.IP(four32(0))
			return true
		}
	case 4:
		if len(v) == 4 {
			a.Med = four32(0)
			return true
		}
	case 5:
		if len(v) == 4 {
			a.Pref = four32(0)
			return true
		}
	case 6:
		return len(v) == 0
	case 7:
		if four && len(v) == 8 {
			a.By = attrs.By{AS: api.AS(four32(0)), IP: api.IP(four32(4))}
			return true
		}
		if !four && len(v) == 6 {
			a.By = attrs.By{AS: api.AS(v[0])<<8 | api.AS(v[1]), IP: api.IP(four32(2))}
			return true
		}
	case 8:
		if len(v) > 0 && len(v)%4 == 0 {
			for from := 0; from < len(v); from += 4 {
				a.Communities = append(a.Communities, four32(from))
			}
			return true
		}
	case 17:
		p, e := path.Read(v, true)
		p = slices.DeleteFunc(p, func(s path.Segment) bool { return s.Kind > 2 })
		if e == api.OK && len(p) > 0 {
			a.Path4 = p
			return true
		}
	case 18:
		if len(v) == 8 {
			a.By4 = attrs.By{AS: api.AS(four32(0)), IP: api.IP(four32(4))}
			return true
		}
	}
	return false
}

// wantRead holds what is read of b against the model, and asks for P10.6.
func wantRead(t *testing.T, b []byte) {
	t.Helper()
	for k := range 4 {
		four, outside := k&1 != 0, k&2 != 0
		a, f := model(b, four, outside)
		wantGet(t, "as the model", b, four, outside, a, f)
		got, _ := attrs.Get(b, four, outside)
		if !got.May() {
			t.Errorf("what was read of % x may not be: %s", b, shown(got))
		}
		laid, e := attrs.Put(got, four)
		if e != api.OK {
			t.Errorf("Put(%s, %v), which was read: %d", shown(got), four, e)
		}
		wantGet(t, "laid again", laid, four, outside, got, fate(attrs.None))
	}
	if t.Failed() {
		t.FailNow()
	}
}

// TestSmallRows: all rows of up to six bytes out of these.
func TestSmallRows(t *testing.T) {
	few := []byte{0, 1, 2, 0x40, 0xc0, 0x80}
	var grow func(b []byte)
	grow = func(b []byte) {
		wantRead(t, b)
		if len(b) == 6 {
			return
		}
		for _, n := range few {
			grow(append(b, n))
		}
	}
	grow(make([]byte, 0, 8))
}

// piece is an attribute's form, mostly a right one.
func piece(t *testing.T, draw func(n int) int, all []value) []byte {
	t.Helper()
	v := all[draw(len(all))]
	typ, b := v.typ, raw(t, v.bytes)
	flags := flagsOf(typ) | byte(draw(4))<<4
	switch draw(12) {
	case 0:
		typ = byte(draw(30))
	case 1:
		flags = byte(draw(256))
	case 2:
		b = b[:draw(len(b)+1)]
	case 3:
		b = append(b, byte(draw(3)))
	case 4:
		if len(b) > 0 {
			b[draw(len(b))] ^= 1 << draw(8)
		}
	case 5, 6:
		typ, flags = byte(20+draw(200)), []byte{0xc0, 0xe0, 0x80, 0xd0}[draw(4)]
	}
	return form(flags, typ, b...)
}

// TestDrawnRows: rows of pieces, some of them hurt, and some cut.
func TestDrawnRows(t *testing.T) {
	draw := draws(3)
	all := append(values(t, false), values(t, true)...)
	counts := map[int]int{}
	for range 20000 {
		var b []byte
		for range draw(7) {
			b = append(b, piece(t, draw, all)...)
		}
		if draw(10) == 0 {
			b = b[:draw(len(b)+1)]
		}
		wantRead(t, b)
		_, f := model(b, false, false)
		counts[f.Class]++
	}
	for class := range 4 {
		if counts[class] < 300 {
			t.Errorf("of class %d only %d rows were drawn", class, counts[class])
		}
	}
}

// TestTwoRows: P10.5.
func TestTwoRows(t *testing.T) {
	draw := draws(4)
	all := append(values(t, false), values(t, true)...)
	asked := 0
	for k := range 20000 {
		four, outside := k&1 != 0, k&2 != 0
		first, second := piece(t, draw, all), piece(t, draw, all)
		if draw(3) == 0 {
			first = append(first, piece(t, draw, all)...)
		}
		a, f := attrs.Get(first, four, outside)
		b, g := attrs.Get(second, four, outside)
		whole := slices.Concat(first, second)
		// one that ends a row has nothing read behind it: not even a Reset
		_, end := attrs.Get(slices.Concat(first, form(0, 254, 1)), four, outside)
		if !sameFate(end, reset(form(0, 254, 1)...)) {
			wantGet(t, "ended", whole, four, outside, a, f)
			continue
		}
		if slices.ContainsFunc(types(first), func(typ byte) bool { return typ == second[1] }) {
			continue
		}
		asked++
		want := fate(max(f.Class, g.Class))
		if g.Class == attrs.Reset {
			want = g
		}
		_, got := attrs.Get(whole, four, outside)
		if !sameFate(got, want) {
			t.Fatalf("% x, then % x: %s, want %s", first, second, shown(got), shown(want))
		}
		if want.Class < attrs.Withdraw {
			wantBoth(t, a, b, whole, four, outside)
		}
	}
	if asked < 5000 {
		t.Errorf("only %d pairs were asked", asked)
	}
}

// types are those of a row that is not cut.
func types(b []byte) []byte {
	var l []byte
	for at := 0; at < len(b); {
		l = append(l, b[at+1])
		n := 3 + int(b[at+2])
		if b[at]&0x10 != 0 {
			n = 4 + int(b[at+2])<<8 + int(b[at+3])
		}
		at += n
	}
	return l
}

// wantBoth asks that of two rows, one behind the other, all is had.
func wantBoth(t *testing.T, a, b attrs.Attrs, whole []byte, four, outside bool) {
	t.Helper()
	got, _ := attrs.Get(whole, four, outside)
	for typ := range 256 {
		if got.Is(byte(typ)) != (a.Is(byte(typ)) || b.Is(byte(typ))) {
			t.Fatalf("of % x, Is(%d): %v", whole, typ, got.Is(byte(typ)))
		}
	}
}
