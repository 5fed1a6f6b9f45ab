package path_test

import (
	"bytes"
	"encoding/binary"
	"slices"
	"testing"

	"consulate/api"
	"consulate/path"
)

// form is the form of p, even if that may not be.
func form(p path.Path, wide bool) []byte {
	var b []byte
	for _, s := range p {
		b = append(b, s.Kind, byte(len(s.Numbers)))
		for _, n := range s.Numbers {
			if wide {
				b = binary.BigEndian.AppendUint32(b, uint32(n))
			} else {
				b = binary.BigEndian.AppendUint16(b, uint16(n))
			}
		}
	}
	return b
}

func wantBytes(t *testing.T, p path.Path, wide bool, b []byte, e api.Errno) {
	t.Helper()
	gotB, gotE := p.Bytes(wide)
	if !bytes.Equal(gotB, b) || gotE != e {
		t.Errorf("Bytes(%v) of %.200v: % x, %d, want % x, %d", wide, p, gotB, gotE, b, e)
	}
}

func wantRead(t *testing.T, b []byte, wide bool, p path.Path, e api.Errno) {
	t.Helper()
	gotP, gotE := path.Read(b, wide)
	if !same(gotP, p) || gotE != e {
		t.Errorf("Read(% x, %v): %.200v, %d, want %.200v, %d", b, wide, gotP, gotE, p, e)
	}
}

// wantForm asks for P7.2 of what has a form, there and back.
func wantForm(t *testing.T, p path.Path, wide bool, b []byte) {
	t.Helper()
	wantBytes(t, p, wide, b, api.OK)
	wantRead(t, b, wide, p, api.OK)
}

func TestForm(t *testing.T) {
	for _, c := range []struct {
		p    path.Path
		wide bool
		b    []byte
	}{
		{nil, false, nil},
		{nil, true, nil},
		{path.Path{}, true, nil},
		{path.Path{seg(2, 10, 20), seg(1, 30, 40)}, false, []byte{2, 2, 0, 10, 0, 20, 1, 2, 0, 30, 0, 40}},
		{path.Path{seg(2, 10, 20), seg(1, 30)}, true, []byte{2, 2, 0, 0, 0, 10, 0, 0, 0, 20, 1, 1, 0, 0, 0, 30}},
		{path.Path{seg(3, 65001, 65002), seg(2, 10)}, false, []byte{3, 2, 0xfd, 0xe9, 0xfd, 0xea, 2, 1, 0, 10}},
		{path.Path{seg(4, 0x01020304)}, true, []byte{4, 1, 1, 2, 3, 4}},
		{path.Path{seg(1, 0xffffffff)}, true, []byte{1, 1, 0xff, 0xff, 0xff, 0xff}},
		{path.Path{seg(1, 0xffff, 0)}, false, []byte{1, 2, 0xff, 0xff, 0, 0}},
		{path.Path{seg(2, 1), seg(2, 2)}, false, []byte{2, 1, 0, 1, 2, 1, 0, 2}},
		{path.Path{seg(2, 23456, 23456)}, false, []byte{2, 2, 0x5b, 0xa0, 0x5b, 0xa0}},
	} {
		wantForm(t, c.p, c.wide, c.b)
	}
}

func TestFormOfManyNumbers(t *testing.T) {
	for n := 1; n <= 255; n++ {
		for _, wide := range []bool{false, true} {
			p := path.Path{seg(3, row(n)...)}
			wantForm(t, p, wide, form(p, wide))
		}
	}
}

func TestFormOfManySegments(t *testing.T) {
	for n := range 33 {
		p := many(n)
		wantForm(t, p, false, form(p, false))
		wantForm(t, p, true, form(p, true))
		for k := range p {
			p[k].Numbers = row(255)
		}
		wantForm(t, p, true, form(p, true))
	}
}

// TestBytesOfWhatMayNotBe: that goes ahead of numbers that are too wide.
func TestBytesOfWhatMayNotBe(t *testing.T) {
	for _, p := range []path.Path{
		{{}}, {seg(2)}, {seg(0, 1)}, {seg(5, 1)}, {seg(255, 1)}, {seg(2, row(256)...)}, {seg(1, row(512)...)},
		many(33), many(300),
		{seg(2, 65536), {}}, {{}, seg(2, 65536)}, {seg(0, 65536)}, {seg(2, append(row(255), 65536)...)}, append(many(32), seg(2, 65536)),
	} {
		wantBytes(t, p, false, nil, api.ErrArg)
		wantBytes(t, p, true, nil, api.ErrArg)
	}
}

func TestNarrowBytes(t *testing.T) {
	for _, n := range edges {
		for _, p := range []path.Path{
			path.Of(1, n), path.Of(2, 1, n), path.Of(3, n, 1), {seg(4, 1), seg(2, n)}, {seg(2, n), seg(1, 1)},
			append(many(31), seg(4, append(row(254), n)...)),
		} {
			wantForm(t, p, true, form(p, true))
			if n <= 65535 {
				wantForm(t, p, false, form(p, false))
			} else {
				wantBytes(t, p, false, nil, api.ErrRange)
			}
		}
	}
}

// TestReadShort cuts forms wherever they can be cut.
func TestReadShort(t *testing.T) {
	p := path.Path{seg(2, 1, 2, 3), seg(1, 4), seg(4, 5, 6), seg(3, row(255)...)}
	for _, wide := range []bool{false, true} {
		whole := map[int]int{} // how many segments the first so many bytes are
		for k := range len(p) + 1 {
			whole[len(form(p[:k], wide))] = k
		}
		b := form(p, wide)
		for n := range len(b) + 1 {
			if k, is := whole[n]; is {
				wantRead(t, b[:n], wide, p[:k], api.OK)
			} else {
				wantRead(t, b[:n], wide, nil, api.ErrShort)
			}
		}
	}
}

// TestReadKind: a kind that is none is wrong in form, if all of it is there.
func TestReadKind(t *testing.T) {
	for kind := range 256 {
		k := byte(kind)
		there := kind >= 1 && kind <= 4
		for _, wide := range []bool{false, true} {
			p := path.Path{seg(k, 7)}
			if there {
				wantRead(t, form(p, wide), wide, p, api.OK)
			} else {
				wantRead(t, form(p, wide), wide, nil, api.ErrForm)
				wantRead(t, append(form(p, wide), 2, 1), wide, nil, api.ErrForm)
			}
			wantRead(t, []byte{k}, wide, nil, api.ErrShort)
			wantRead(t, []byte{k, 0}, wide, nil, api.ErrForm)
			wantRead(t, []byte{k, 0, 2, 1}, wide, nil, api.ErrForm)
			wantRead(t, []byte{k, 1, 7}, wide, nil, api.ErrShort)
			wantRead(t, []byte{k, 255, 0, 0, 0, 7}, wide, nil, api.ErrShort)
			wantRead(t, append(form(many(3), wide), k, 0), wide, nil, api.ErrForm)
		}
	}
}

// TestReadFull: what is wrong with the 33rd itself goes ahead of it, what is
// wrong behind it does not.
func TestReadFull(t *testing.T) {
	for _, wide := range []bool{false, true} {
		b := form(many(32), wide)
		behind := func(l ...byte) []byte { return slices.Concat(b, l) }
		wantRead(t, b, wide, many(32), api.OK)
		wantRead(t, form(many(33), wide), wide, nil, api.ErrFull)
		wantRead(t, form(many(300), wide), wide, nil, api.ErrFull)
		wantRead(t, append(form(many(33), wide), 0), wide, nil, api.ErrFull)
		wantRead(t, append(form(many(33), wide), 0, 0), wide, nil, api.ErrFull)
		wantRead(t, append(form(many(33), wide), 2, 1), wide, nil, api.ErrFull)
		wantRead(t, behind(2), wide, nil, api.ErrShort)
		wantRead(t, behind(2, 1, 0), wide, nil, api.ErrShort)
		wantRead(t, behind(2, 0), wide, nil, api.ErrForm)
		wantRead(t, behind(0, 1, 0, 0, 0, 1), wide, nil, api.ErrForm)
	}
}

// TestReadFirstFault: what is wrong with a segment goes ahead of what is wrong
// with one behind it.
func TestReadFirstFault(t *testing.T) {
	wantRead(t, []byte{2, 1, 0, 1, 5, 1, 0, 1, 2, 1, 0}, false, nil, api.ErrForm)
	wantRead(t, []byte{2, 1, 0, 1, 2, 0, 2}, false, nil, api.ErrForm)
	wantRead(t, []byte{5, 2, 0, 1, 0}, false, nil, api.ErrShort)
	wantRead(t, []byte{0}, false, nil, api.ErrShort)
	// the same bytes may be one path narrow and another one wide
	b := []byte{2, 2, 0, 1, 1, 2, 1, 2, 0, 3, 0, 4}
	wantRead(t, b, false, path.Path{seg(2, 1, 258), seg(1, 3, 4)}, api.OK)
	wantRead(t, b, true, nil, api.ErrShort)
	wantRead(t, b[:10], true, path.Path{seg(2, 0x00010102, 0x01020003)}, api.OK)
}

func TestBytesShareNoMemory(t *testing.T) {
	p := path.Path{seg(2, 1, 2), seg(1, 3)}
	for _, wide := range []bool{false, true} {
		b := form(p, wide)
		was := bytes.Clone(b)
		q, _ := path.Read(b, wide)
		_ = append(q[0].Numbers, 99, 99, 99, 99)
		wantSame(t, "what was read", q, p)
		if !bytes.Equal(b, was) {
			t.Error("what was handed in is changed:", b)
		}
		clear(b)
		wantSame(t, "what was read", q, p)

		b, _ = q.Bytes(wide)
		clear(q[0].Numbers)
		if !bytes.Equal(b, was) {
			t.Error("what was handed in is kept:", b)
		}
		wantBytes(t, p, wide, was, api.OK)
	}
}

// model reads a form as the chapter says.
func model(b []byte, wide bool) (path.Path, api.Errno) {
	size := 2
	if wide {
		size = 4
	}
	var p path.Path
	for len(b) > 0 {
		if len(b) < 2 || len(b) < 2+size*int(b[1]) {
			return nil, api.ErrShort
		}
		if b[0] < 1 || b[0] > 4 || b[1] == 0 {
			return nil, api.ErrForm
		}
		if len(p) == 32 {
			return nil, api.ErrFull
		}
		s := seg(b[0])
		for k := range int(b[1]) {
			n := api.AS(0)
			for _, c := range b[2+k*size : 2+k*size+size] {
				n = n*256 + api.AS(c)
			}
			s.Numbers = append(s.Numbers, n)
		}
		p = append(p, s)
		b = b[2+size*len(s.Numbers):]
	}
	return p, api.OK
}

// wantAsModel holds Read against the model and, of what is read, P7.4.
func wantAsModel(t *testing.T, b []byte, wide bool) api.Errno {
	t.Helper()
	p, e := model(b, wide)
	wantRead(t, b, wide, p, e)
	if e == api.OK {
		wantMay(t, p, true)
		wantBytes(t, p, wide, b, api.OK)
	}
	return e
}

// TestEveryShortForm plays every row of up to eight small bytes.
func TestEveryShortForm(t *testing.T) {
	rows := [][]byte{nil}
	for len(rows) > 0 && !t.Failed() {
		l := rows[0]
		rows = rows[1:]
		wantAsModel(t, l, false)
		wantAsModel(t, l, true)
		for _, k := range []byte{0, 1, 2, 5} {
			if len(l) < 8 {
				rows = append(rows, append(slices.Clone(l), k))
			}
		}
	}
}

// TestFormThereAndBack: P7.4 of forms, and of these with each one byte
// changed, one more, or one fewer.
func TestFormThereAndBack(t *testing.T) {
	draw := draws(8)
	count := map[api.Errno]int{}
	for range 1500 {
		wide := draw(2) == 0
		p := drawn(draw, 40, 12)
		if !wide {
			for _, s := range p {
				for k, n := range s.Numbers {
					s.Numbers[k] = n & 0xffff
				}
			}
		}
		b := form(p, wide)
		if len(p) <= 32 {
			wantForm(t, p, wide, b)
		}
		wantAsModel(t, append(slices.Clone(b), byte(draw(256))), wide)
		wantAsModel(t, b[:max(len(b)-1, 0)], wide)
		for range min(20, len(b)) {
			at := draw(len(b))
			was := b[at]
			b[at] = byte(draw(256))
			count[wantAsModel(t, b, wide)]++
			b[at] = byte(draw(6))
			count[wantAsModel(t, b, wide)]++
			b[at] = was
		}
	}
	for _, e := range []api.Errno{api.OK, api.ErrShort, api.ErrForm, api.ErrFull} {
		if count[e] < 500 {
			t.Error("only", count[e], "of", e)
		}
	}
}

// TestFormOfBoth: P7.5.
func TestFormOfBoth(t *testing.T) {
	draw := draws(9)
	for range 1000 {
		p, q := drawn(draw, 20, 8), drawn(draw, 20, 8)
		both := slices.Concat(p, q)
		b, _ := p.Bytes(true)
		c, _ := q.Bytes(true)
		if len(both) <= 32 {
			wantForm(t, both, true, slices.Concat(b, c))
		} else {
			wantBytes(t, both, true, nil, api.ErrArg)
			wantRead(t, slices.Concat(b, c), true, nil, api.ErrFull)
		}
		if both.Count() != p.Count()+q.Count() {
			t.Error("Count of both", both.Count())
		}
	}
}
