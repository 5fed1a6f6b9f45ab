package update_test

import (
	"bytes"
	"encoding/hex"
	"fmt"
	"slices"
	"testing"

	"consulate/api"
	"consulate/attrs"
	"consulate/path"
	"consulate/prefix"
	"consulate/update"
)

// sessions are all that there are.
func sessions() []update.Session {
	var l []update.Session
	for k := range 8 {
		l = append(l, update.Session{Four: k&1 != 0, Outside: k&2 != 0, Pref: k&4 != 0})
	}
	return l
}

// body is one of these rows.
func body(withdrawn, with, announced []byte) []byte {
	n, m := len(withdrawn), len(with)
	return slices.Concat([]byte{byte(n >> 8), byte(n)}, withdrawn, []byte{byte(m >> 8), byte(m)}, with, announced)
}

// row is prefixes' bytes.
func row(t *testing.T, text string) []byte {
	t.Helper()
	b, e := prefix.Bytes(pre(t, text)...)
	if e != api.OK {
		t.Fatal(e)
	}
	return b
}

// reset is what comes of a body that is itself wrong.
func reset(sub byte) update.Result {
	return update.Result{Fate: attrs.Fate{Class: attrs.Reset, Fault: api.Fault{Code: 3, Sub: sub}}}
}

// withdraw is what comes of one whose prefixes are all withdrawn.
func withdraw(l []api.Prefix) update.Result {
	return update.Result{Fate: attrs.Fate{Class: attrs.Withdraw}, Update: update.Update{Withdrawn: l}}
}

// result is what comes of one that is neither.
func result(class int, withdrawn []api.Prefix, a attrs.Attrs, announced []api.Prefix) update.Result {
	return update.Result{Fate: attrs.Fate{Class: class}, Update: update.Update{Withdrawn: withdrawn, Attrs: a, Announced: announced}}
}

func wantRead(t *testing.T, what string, b []byte, s update.Session, want update.Result) {
	t.Helper()
	was := bytes.Clone(b)
	got := update.Read(b, s)
	if !same(got, want) {
		t.Errorf("%s: Read(%s, %+v): %s, want %s", what, shown(hex.EncodeToString(b)), s, shown(got), shown(want))
	}
	if !bytes.Equal(b, was) {
		t.Errorf("%s: Read changed % x", what, was)
	}
}

// wantEachRead asks the same in all sessions.
func wantEachRead(t *testing.T, what string, b []byte, want update.Result) {
	t.Helper()
	for _, s := range sessions() {
		wantRead(t, what, b, s, want)
	}
}

func TestReadExamples(t *testing.T) {
	end := update.Result{End: true}
	ten := pre(t, "10.0.0.0/8")
	for _, c := range []struct {
		text string
		want update.Result
	}{
		{"00 00 00 00", end},
		{"00 02 08 0a 00 00", result(attrs.None, ten, attrs.Attrs{}, nil)},
		{"00 00 00 00 08 0a", withdraw(ten)},
		{"00 05 08 0a 00 00", reset(1)},
		{"00 01 21 00 00", reset(10)},
	} {
		wantEachRead(t, "example", raw(t, c.text), c.want)
	}
}

// TestReadEnd: four bytes 0, and nothing else.
func TestReadEnd(t *testing.T) {
	for _, text := range []string{
		"", "00", "00 00", "00 00 00", "00 00 00 00 00", "00 00 00 00 00 00 00 00", "00 00 00 01", "00 00 01 00", "00 01 00 00", "01 00 00 00",
		"00 01 00 00 00", "00 00 00 04 40 01 01 00", "00 00 00 04 40 01 01 07", "00 00 00 03 40 06 00 ",
		"00 00 00 0e" + leastBytes, "00 00 00 0e" + leastBytes + "08 0a", "00 00 00 03 c0 63 00", "00 00 00 03 40 63 00", "00 00 00 03 80 63 00",
	} {
		for _, s := range sessions() {
			if update.Read(raw(t, text), s).End {
				t.Errorf("Read(%s, %+v): an end", text, s)
			}
		}
	}
}

// TestReadLengths: what two lengths tell of, as far as it is there.
func TestReadLengths(t *testing.T) {
	for have := range 16 {
		for n := range 18 {
			for m := range 18 {
				b := make([]byte, have)
				set := func(at, n int) {
					if at < have {
						b[at] = byte(n)
					}
				}
				set(1, n)
				set(2+n+1, m)
				whole := have >= 2+n+2+m
				if have < 2 {
					whole = false
				}
				for _, s := range sessions() {
					got := update.Read(b, s)
					if is := got.Fate.Class == attrs.Reset && got.Fate.Fault.Sub == 1; is == whole {
						t.Fatalf("Read(% x, %+v): %s", b, s, shown(got))
					}
					if !whole && !same(got, reset(1)) {
						t.Fatalf("Read(% x, %+v): %s, want nothing but 3, 1", b, s, shown(got))
					}
				}
			}
		}
	}
	wantEachRead(t, "no body", nil, reset(1))
}

// TestReadCut: of a whole body, cut in what its lengths tell of, nothing comes.
func TestReadCut(t *testing.T) {
	whole := body(row(t, "10.0.0.0/8 11.1.0.0/16"), raw(t, leastBytes+"40 05 04 00000064"), nil)
	for n := range whole {
		wantEachRead(t, "cut", whole[:n], reset(1))
	}
	for _, s := range sessions() {
		want := result(attrs.None, pre(t, "10.0.0.0/8 11.1.0.0/16"), attrs.Attrs{}, nil)
		if s.Outside {
			want.Fate.Class = attrs.Discard // of the Pref
		}
		wantRead(t, "whole", whole, s, want)
	}
}

// TestReadHighLengths: both bytes of a length count.
func TestReadHighLengths(t *testing.T) {
	none := pre(t, "0.0.0.0/0")
	for _, n := range []int{255, 256, 257, 4077, 65535} {
		b := body(make([]byte, n), nil, nil)
		wantEachRead(t, "withdrawn", b, result(attrs.None, none, attrs.Attrs{}, nil))
		wantEachRead(t, "withdrawn, cut", b[:len(b)-1], reset(1))
		wantEachRead(t, "withdrawn, and attributes", body(make([]byte, n), []byte{1}, nil), withdraw(none))
		if n < 300 {
			continue
		}
		value := make([]byte, n-4)
		form := slices.Concat([]byte{0xd0, 99, byte(len(value) >> 8), byte(len(value))}, value)
		b = body(nil, form, nil)
		wantEachRead(t, "attributes", b, update.Result{})
		wantEachRead(t, "attributes, cut", b[:len(b)-1], reset(1))
		form[0] = 0x50
		want := reset(2)
		want.Fate.Data = form
		wantEachRead(t, "attributes", body(nil, form, []byte{33}), want)
	}
	b := body(nil, raw(t, leastBytes), make([]byte, 100000))
	wantRead(t, "announced", b, update.Session{}, result(attrs.None, nil, least(), none))
}

// rowOf is prefixes' bytes, and what prefix.Read refuses.
type rowOf struct {
	text string
	list string
	ok   bool
}

// withOf is attributes' bytes, and what comes of them.
type withOf struct {
	text  string
	class int
	least bool
}

func prefixRows() []rowOf {
	return []rowOf{
		{"", "", true},
		{"08 0b 00", "0.0.0.0/0 11.0.0.0/8", true},
		{"08 0b 21", "", false},
		{"08 0b 18 0a 00", "", false},
		{"20", "", false},
	}
}

func withRows() []withOf {
	return []withOf{
		{"", attrs.None, false},
		{leastBytes, attrs.None, true},
		{leastBytes + "40 06 00 40 06 00", attrs.Discard, true},
		{leastBytes + "80 04 01 00", attrs.Withdraw, true},
		{leastBytes + "40", attrs.Withdraw, true},
		{leastBytes + "40 63 02 05 06", attrs.Reset, true},
		{leastBytes + "40 06 00 40 06 01 07", attrs.Discard, true},
	}
}

// TestReadWhichIsFirst: each row of prefixes, of attributes, and of prefixes
// behind them, in whole and where a length tells of too much.
func TestReadWhichIsFirst(t *testing.T) {
	for _, w := range prefixRows() {
		for _, a := range withRows() {
			for _, n := range prefixRows() {
				rows := [][]byte{raw(t, w.text), raw(t, a.text), raw(t, n.text)}
				whole := body(rows[0], rows[1], rows[2])
				for _, s := range []update.Session{{}, {Four: true}, {Outside: true}, {Four: true, Outside: true}} {
					wantRead(t, "whole", whole, s, first(t, w, a, n, s))
				}
				// an attribute's length tells of one byte more than there is
				b := bytes.Clone(whole)
				at := 2 + len(rows[0])
				all := len(b) - at - 1
				b[at], b[at+1] = byte(all>>8), byte(all)
				wantEachRead(t, "attributes cut", b, reset(1))
				// and so does that of what is withdrawn
				b = bytes.Clone(whole)
				all = len(b) - 3
				b[0], b[1] = byte(all>>8), byte(all)
				wantEachRead(t, "withdrawn cut", b, reset(1))
			}
		}
	}
}

// first is what comes first of these rows.
func first(t *testing.T, w rowOf, a withOf, n rowOf, s update.Session) update.Result {
	t.Helper()
	switch {
	case !w.ok:
		return reset(10)
	case a.class == attrs.Reset:
		r := reset(2)
		r.Fate.Data = raw(t, "40 63 02 05 06")
		return r
	case !n.ok:
		return reset(10)
	case a.class == attrs.Withdraw || n.list != "" && !a.least:
		list := w.list
		if n.list != "" {
			list = n.list // both rows have the same
		}
		return withdraw(pre(t, list))
	case n.list == "":
		r := result(a.class, pre(t, w.list), attrs.Attrs{}, nil)
		r.End = w.text+a.text == ""
		return r
	}
	has := least()
	if a.class == attrs.Discard {
		has.Has |= bits(attrs.Atomic)
	}
	return result(a.class, nil, has, pre(t, n.list))
}

// TestReadPrefixes: in order, each once; what is announced is not withdrawn.
func TestReadPrefixes(t *testing.T) {
	for _, c := range []struct{ withdrawn, announced, gone, told, all string }{
		{"", "", "", "", ""},
		{"11.0.0.0/8 10.0.0.0/8", "", "10.0.0.0/8 11.0.0.0/8", "", "10.0.0.0/8 11.0.0.0/8"},
		{"", "11.0.0.0/8 10.0.0.0/8", "", "10.0.0.0/8 11.0.0.0/8", "10.0.0.0/8 11.0.0.0/8"},
		{"", "10.0.0.0/16 10.0.0.0/8 10.0.0.0/9 0.0.0.0/0 9.255.255.255/32", "", "0.0.0.0/0 9.255.255.255/32 10.0.0.0/8 10.0.0.0/9 10.0.0.0/16",
			"0.0.0.0/0 9.255.255.255/32 10.0.0.0/8 10.0.0.0/9 10.0.0.0/16"},
		{"128.0.0.0/1 0.0.0.0/1 255.0.0.0/8 127.0.0.0/8", "", "0.0.0.0/1 127.0.0.0/8 128.0.0.0/1 255.0.0.0/8", "", "0.0.0.0/1 127.0.0.0/8 128.0.0.0/1 255.0.0.0/8"},
		{"10.0.0.0/8 11.0.0.0/8 10.0.0.0/8", "", "10.0.0.0/8 11.0.0.0/8", "", "10.0.0.0/8 11.0.0.0/8"},
		{"", "10.0.0.0/8 11.0.0.0/8 10.0.0.0/8 10.0.0.0/8", "", "10.0.0.0/8 11.0.0.0/8", "10.0.0.0/8 11.0.0.0/8"},
		{"10.0.0.0/8", "10.0.0.0/8", "", "10.0.0.0/8", "10.0.0.0/8"},
		{"10.0.0.0/8", "10.0.0.0/9", "10.0.0.0/8", "10.0.0.0/9", "10.0.0.0/8 10.0.0.0/9"},
		{"10.0.0.0/9", "10.0.0.0/8", "10.0.0.0/9", "10.0.0.0/8", "10.0.0.0/8 10.0.0.0/9"},
		{"12.0.0.0/8 10.0.0.0/8 11.0.0.0/8 12.0.0.0/8", "13.0.0.0/8 11.0.0.0/8 9.0.0.0/8 11.0.0.0/8",
			"10.0.0.0/8 12.0.0.0/8", "9.0.0.0/8 11.0.0.0/8 13.0.0.0/8", "9.0.0.0/8 10.0.0.0/8 11.0.0.0/8 12.0.0.0/8 13.0.0.0/8"},
		{"11.0.0.0/8 10.0.0.0/8", "10.0.0.0/8 11.0.0.0/8", "", "10.0.0.0/8 11.0.0.0/8", "10.0.0.0/8 11.0.0.0/8"},
	} {
		withdrawn, announced := row(t, c.withdrawn), row(t, c.announced)
		has := attrs.Attrs{}
		if c.told != "" {
			has = least()
		}
		for _, s := range []update.Session{{}, {Four: true}, {Outside: true}} {
			b := body(withdrawn, raw(t, leastBytes), announced)
			wantRead(t, "right", b, s, result(attrs.None, pre(t, c.gone), has, pre(t, c.told)))
			b = body(withdrawn, raw(t, leastBytes+"40 06 01 00"), announced)
			wantRead(t, "Discard", b, s, result(attrs.Discard, pre(t, c.gone), has, pre(t, c.told)))
		}
		wantEachRead(t, "Withdraw", body(withdrawn, raw(t, "80 01 01 00"), announced), withdraw(pre(t, c.all)))
		if c.told != "" {
			wantEachRead(t, "missing", body(withdrawn, nil, announced), withdraw(pre(t, c.all)))
		}
	}
	// bits behind a prefix's own are none of it
	b := body(raw(t, "09 0a ff 04 1f 08 0a"), raw(t, leastBytes), raw(t, "09 0a 80 01 ff 01 80 00"))
	wantRead(t, "bits", b, update.Session{}, result(attrs.None, pre(t, "10.0.0.0/8 16.0.0.0/4"), least(), pre(t, "0.0.0.0/0 10.128.0.0/9 128.0.0.0/1")))
	b = body(raw(t, "09 0a ff 04 1f 08 0a"), nil, raw(t, "09 0a 80 01 ff 01 80 00"))
	wantEachRead(t, "bits", b, withdraw(pre(t, "0.0.0.0/0 10.0.0.0/8 10.128.0.0/9 16.0.0.0/4 128.0.0.0/1")))
}

// TestReadMissing: each of what must be there, in each session.
func TestReadMissing(t *testing.T) {
	forms := []string{"40 01 01 00", "40 02 00", "40 03 04 0a000001", "40 05 04 00000007", "80 04 04 00000009"}
	types := []byte{attrs.Origin, attrs.Path, attrs.NextHop, attrs.Pref, attrs.Med}
	for k := range 1 << len(forms) {
		text, a := "", attrs.Attrs{}
		for j, form := range forms {
			if k>>j&1 == 1 {
				text += form
				a.Has |= bits(types[j])
			}
		}
		if k&4 != 0 {
			a.NextHop = 0x0a000001
		}
		if k&16 != 0 {
			a.Med = 9
		}
		for _, s := range sessions() {
			a, class := a, attrs.None
			switch {
			case k&8 != 0 && s.Outside:
				a.Has, class = a.Has&^bits(attrs.Pref), attrs.Discard
			case k&8 != 0:
				a.Pref = 7
			}
			gone, told := pre(t, "11.0.0.0/8"), pre(t, "10.0.0.0/8")
			want := result(class, gone, a, told)
			if k&7 != 7 || s.Pref && a.Has&bits(attrs.Pref) == 0 {
				want = withdraw(append(told, gone...))
			}
			wantRead(t, "some", body(row(t, "11.0.0.0/8"), raw(t, text), row(t, "10.0.0.0/8")), s, want)
			// without anything announced nothing is missing
			want = result(class, gone, attrs.Attrs{}, nil)
			wantRead(t, "none announced", body(row(t, "11.0.0.0/8"), raw(t, text), nil), s, want)
			want = result(class, nil, attrs.Attrs{}, nil)
			want.End = k == 0
			wantRead(t, "no prefix", body(nil, raw(t, text), nil), s, want)
		}
	}
}

// TestReadWidened: without four bytes paths and aggregators are widened; with
// them what would be beside is passed over.
func TestReadWidened(t *testing.T) {
	for _, c := range []struct{ came, whole paths }{
		{paths{path: "10 20"}, paths{path: "10 20"}},
		{paths{path: "5 10 23456", path4: "10 70000"}, paths{path: "5 10 70000"}},
		{paths{path: "23456", path4: "10 70000"}, paths{path: "23456"}},
		{paths{path: "(7) 5 23456", path4: "70000"}, paths{path: "(7) 5 70000"}},
		{paths{"5 23456", "23456 7", "70000", "80000 8"}, paths{path: "5 70000", by: "80000 8"}},
		{paths{"5 23456", "9 7", "70000", "80000 8"}, paths{path: "5 23456", by: "9 7"}},
		{paths{"5 23456", "9 7", "70000", ""}, paths{path: "5 70000", by: "9 7"}},
		{paths{"5 23456", "", "", "80000 8"}, paths{path: "5 23456"}},
		{paths{"5 23456", "23456 7", "", "80000 8"}, paths{path: "5 23456", by: "80000 8"}},
	} {
		came := c.came.give(t, least())
		with, e := attrs.Put(came, false)
		if e != api.OK {
			t.Fatal(e)
		}
		b := body(nil, with, row(t, "10.0.0.0/8"))
		wantRead(t, "narrow", b, update.Session{}, result(attrs.None, nil, c.whole.give(t, least()), pre(t, "10.0.0.0/8")))
		wantRead(t, "narrow, nothing announced", body(nil, with, nil), update.Session{}, update.Result{})

		with, e = attrs.Put(bare(came), true)
		if e != api.OK {
			t.Fatal(e)
		}
		b = body(nil, with, row(t, "10.0.0.0/8"))
		wantRead(t, "wide", b, update.Session{Four: true}, result(attrs.None, nil, bare(came), pre(t, "10.0.0.0/8")))
		with = append(with, raw(t, "c0 11 06 02 01 00011170 c0 12 08 00011170 0a000001")...)
		b = body(nil, with, row(t, "10.0.0.0/8"))
		wantRead(t, "wide", b, update.Session{Four: true}, result(attrs.Discard, nil, bare(came), pre(t, "10.0.0.0/8")))
	}
}

// TestReadWidenedTooLong: a path that is fused may have more segments than may
// be; one that came may not.
func TestReadWidenedTooLong(t *testing.T) {
	for ahead := range 32 {
		for beside := 1; beside <= 32; beside += 1 + beside/4*beside%3 {
			a := fusing(ahead, beside)
			with, e := attrs.Put(a, false)
			if e != api.OK {
				t.Fatal(e)
			}
			gone, told := pre(t, "11.0.0.0/8"), pre(t, "10.0.0.0/8")
			want := withdraw(append(slices.Clone(told), gone...))
			if ahead+beside <= 32 {
				whole := bare(a)
				whole.Path = slices.Concat(a.Path[:ahead], a.Path4)
				want = result(attrs.None, gone, whole, told)
			}
			b := body(row(t, "11.0.0.0/8"), with, row(t, "10.0.0.0/8"))
			wantRead(t, "fused", b, update.Session{}, want)
			wantRead(t, "fused, from outside", b, update.Session{Outside: true}, want)
			// it is passed over
			a.Has |= bits(attrs.Aggregator, attrs.Aggregator4)
			with, _ = attrs.Put(a, false)
			want = result(attrs.None, gone, bare(a), told)
			wantRead(t, "passed over", body(row(t, "11.0.0.0/8"), with, row(t, "10.0.0.0/8")), update.Session{}, want)
		}
	}
}

// TestReadFates: of attributes that are wrong, what comes of each.
func TestReadFates(t *testing.T) {
	gone, told := "12.0.0.0/8 11.0.0.0/8", "11.0.0.0/8 10.0.0.0/8"
	other := least()
	other.Others = []attrs.Other{{Flags: 0xe0, Type: 99, Value: []byte{7}}}
	pref := least()
	pref.Has |= bits(attrs.Pref)
	pref.Pref = 0x01020304
	for _, c := range []struct {
		more    string
		inside  update.Result
		outside update.Result
	}{
		{"c0 63 01 07", result(attrs.None, pre(t, "12.0.0.0/8"), other, pre(t, "10.0.0.0/8 11.0.0.0/8")), result(attrs.None, pre(t, "12.0.0.0/8"), other, pre(t, "10.0.0.0/8 11.0.0.0/8"))},
		{"80 63 01 07", result(attrs.None, pre(t, "12.0.0.0/8"), least(), pre(t, "10.0.0.0/8 11.0.0.0/8")), result(attrs.None, pre(t, "12.0.0.0/8"), least(), pre(t, "10.0.0.0/8 11.0.0.0/8"))},
		{"40 05 04 01020304", result(attrs.None, pre(t, "12.0.0.0/8"), pref, pre(t, "10.0.0.0/8 11.0.0.0/8")), result(attrs.Discard, pre(t, "12.0.0.0/8"), least(), pre(t, "10.0.0.0/8 11.0.0.0/8"))},
		{"40 05 01 07", withdraw(pre(t, "10.0.0.0/8 11.0.0.0/8 12.0.0.0/8")), result(attrs.Discard, pre(t, "12.0.0.0/8"), least(), pre(t, "10.0.0.0/8 11.0.0.0/8"))},
		{"c0 07 01 07", result(attrs.Discard, pre(t, "12.0.0.0/8"), least(), pre(t, "10.0.0.0/8 11.0.0.0/8")), result(attrs.Discard, pre(t, "12.0.0.0/8"), least(), pre(t, "10.0.0.0/8 11.0.0.0/8"))},
		{"c0 08 01 07", withdraw(pre(t, "10.0.0.0/8 11.0.0.0/8 12.0.0.0/8")), withdraw(pre(t, "10.0.0.0/8 11.0.0.0/8 12.0.0.0/8"))},
	} {
		b := body(row(t, gone), raw(t, leastBytes+c.more), row(t, told))
		for _, four := range []bool{false, true} {
			wantRead(t, "inside", b, update.Session{Four: four}, c.inside)
			wantRead(t, "outside", b, update.Session{Four: four, Outside: true}, c.outside)
		}
	}
}

// TestReadNewMemory: nothing of what comes is the body's, or is told twice.
func TestReadNewMemory(t *testing.T) {
	a := full(t)
	for _, s := range sessions() {
		with, _ := update.Told(a, s.Four)
		b := body(row(t, "12.0.0.0/8 11.0.0.0/8 11.0.0.0/8 9.0.0.0/8"), with, row(t, "11.0.0.0/8 10.0.0.0/8"))
		wantReadApart(t, b, s)
		wantReadApart(t, body(row(t, "12.0.0.0/8 11.0.0.0/8"), nil, row(t, "11.0.0.0/8 10.0.0.0/8")), s)
		wantReadApart(t, body(nil, raw(t, "40 63 02 05 06"), nil), s)
		// and it hangs on the body no more
		got, was := update.Read(b, s), shown(update.Read(b, s))
		clear(b)
		if shown(got) != was {
			t.Errorf("of a body that was changed: %s, want %s", shown(got), was)
		}
	}
}

func wantReadApart(t *testing.T, b []byte, s update.Session) {
	t.Helper()
	got, was := update.Read(b, s), update.Read(b, s)
	all := append(lists(got.Attrs), prefixes("Withdrawn", got.Withdrawn), prefixes("Announced", got.Announced), numbers("Data", got.Fate.Data))
	wantApart(t, "Read", all, func() string { return fmt.Sprint(b) })
	for _, l := range all {
		l.turn()
	}
	if again := update.Read(b, s); !same(again, was) {
		t.Errorf("read otherwise the second time: %s, want %s", shown(again), shown(was))
	}
}

// TestReadAnyPath: in each session the path has numbers of its width.
func TestReadAnyPath(t *testing.T) {
	told := pre(t, "10.0.0.0/8")
	wide := body(nil, raw(t, "40 01 01 01 40 02 0a 02 02 0000000a 00011170 40 03 04 0a000001"), row(t, "10.0.0.0/8"))
	narrow := body(nil, raw(t, "40 01 01 01 40 02 06 02 02 000a 5ba0 40 03 04 0a000001"), row(t, "10.0.0.0/8"))
	a := least()
	a.Origin, a.Path = 1, path.Of(path.Sequence, 10, 70000)
	wantRead(t, "wide", wide, update.Session{Four: true}, result(attrs.None, nil, a, told))
	wantRead(t, "wide, read narrow", wide, update.Session{}, withdraw(told))
	a.Path = path.Of(path.Sequence, 10, 23456)
	wantRead(t, "narrow", narrow, update.Session{}, result(attrs.None, nil, a, told))
	wantRead(t, "narrow, read wide", narrow, update.Session{Four: true}, withdraw(told))
}
