package update_test

import (
	"bytes"
	"fmt"
	"slices"
	"testing"

	"consulate/api"
	"consulate/attrs"
	"consulate/fuse"
	"consulate/prefix"
	"consulate/update"
)

// model tells what comes of a body as the chapter says it, without the
// package's means.
func model(b []byte, s update.Session) update.Result {
	if len(b) < 2 {
		return reset(1)
	}
	n := int(b[0])*256 + int(b[1])
	if len(b) < 2+n+2 {
		return reset(1)
	}
	m := int(b[2+n])*256 + int(b[2+n+1])
	if len(b) < 2+n+2+m {
		return reset(1)
	}
	withdrawn, e := prefix.Read(b[2 : 2+n])
	if e != api.OK {
		return reset(10)
	}
	a, fate := attrs.Get(b[2+n+2:2+n+2+m], s.Four, s.Outside)
	if fate.Class == attrs.Reset {
		return update.Result{Fate: fate}
	}
	announced, e := prefix.Read(b[2+n+2+m:])
	if e != api.OK {
		return reset(10)
	}
	if !s.Four {
		a = modelWidened(a)
	}
	lacking := a.Missing(s.Pref) != 0 || len(a.Path) > 32
	if fate.Class == attrs.Withdraw || len(announced) > 0 && lacking {
		return withdraw(settled(append(withdrawn, announced...), nil))
	}
	r := update.Result{Fate: attrs.Fate{Class: fate.Class}, End: len(b) == 4 && n == 0 && m == 0}
	if len(announced) > 0 {
		r.Attrs = a
	}
	r.Withdrawn, r.Announced = settled(withdrawn, announced), settled(announced, nil)
	return r
}

// modelWidened is a, which came without four bytes, as the chapter says it.
func modelWidened(a attrs.Attrs) attrs.Attrs {
	b := bare(a)
	trans := a.Has&bits(attrs.Aggregator) != 0 && a.By.AS == 23456
	passed := a.Has&bits(attrs.Aggregator) != 0 && a.Has&bits(attrs.Aggregator4) != 0 && !trans
	if a.Has&bits(attrs.Path4) != 0 && a.Has&bits(attrs.Path) != 0 && !passed {
		b.Path = fuse.Fuse(a.Path, a.Path4)
	}
	if a.Has&bits(attrs.Aggregator4) != 0 && trans {
		b.By = a.By4
	}
	return b
}

// settled is l in order, each once, but for those that are in the other list.
func settled(l, but []api.Prefix) []api.Prefix {
	there := map[api.Prefix]bool{}
	for _, p := range but {
		there[p] = true
	}
	var out []api.Prefix
	for _, p := range l {
		if !there[p] {
			there[p] = true
			out = append(out, p)
		}
	}
	slices.SortFunc(out, func(p, q api.Prefix) int {
		if p.IP == q.IP {
			return p.Bits - q.Bits
		}
		return int(p.IP) - int(q.IP)
	})
	return out
}

// standing are the prefixes that stand in a body whose lengths are right.
func standing(t *testing.T, b []byte) []api.Prefix {
	t.Helper()
	n := int(b[0])*256 + int(b[1])
	m := int(b[2+n])*256 + int(b[3+n])
	withdrawn, e := prefix.Read(b[2 : 2+n])
	announced, f := prefix.Read(b[4+n+m:])
	if e != api.OK || f != api.OK {
		t.Fatalf("of % x, which is refused, something came", b)
	}
	return settled(append(withdrawn, announced...), nil)
}

// wantModel holds what is read of b against the model, in all sessions, and
// asks for P11.5.
func wantModel(t *testing.T, b []byte) {
	t.Helper()
	for _, s := range sessions() {
		wantRead(t, "as the model", b, s, model(b, s))
		wantWhatever(t, b, update.Read(b, s))
	}
	if t.Failed() {
		t.FailNow()
	}
}

// wantWhatever asks for P11.5: of a Reset there is nothing, else each prefix
// that stands there, once.
func wantWhatever(t *testing.T, b []byte, r update.Result) {
	t.Helper()
	if r.Fate.Class == attrs.Reset {
		if r.Fate.Fault.Code != 3 || !same(r, update.Result{Fate: r.Fate}) {
			t.Errorf("of % x comes a Reset, and something else: %s", b, shown(r))
		}
		return
	}
	if r.Fate.Fault != (api.Fault{}) || len(r.Fate.Data) > 0 {
		t.Errorf("of % x comes a fault, and no Reset: %s", b, shown(r))
	}
	told := append(slices.Clone(r.Withdrawn), r.Announced...)
	slices.SortFunc(told, prefix.Compare)
	if want := standing(t, b); !same(told, want) {
		t.Errorf("of % x is told %s, want %s", b, shown(told), shown(want))
	}
	if len(r.Announced) == 0 && !same(r.Attrs, attrs.Attrs{}) {
		t.Errorf("of % x nothing is announced, but there are attributes: %s", b, shown(r))
	}
	if len(r.Announced) > 0 && r.Fate.Class > attrs.Discard {
		t.Errorf("of % x something is announced: %s", b, shown(r))
	}
}

// TestSmallBodies: P11.4 and P11.5, of all rows of up to seven of these bytes.
func TestSmallBodies(t *testing.T) {
	few := []byte{0, 1, 2, 8, 0x21}
	var grow func(b []byte)
	grow = func(b []byte) {
		for _, s := range []update.Session{{}, {Four: true, Outside: true, Pref: true}} {
			wantRead(t, "as the model", b, s, model(b, s))
			wantWhatever(t, b, update.Read(b, s))
		}
		if t.Failed() {
			t.FailNow()
		}
		if len(b) == 7 {
			return
		}
		for _, n := range few {
			grow(append(b, n))
		}
	}
	grow(make([]byte, 0, 8))
}

// drawnRow is prefixes' bytes: of few prefixes, so that some come twice.
func drawnRow(t *testing.T, draw func(n int) int) []byte {
	t.Helper()
	var l []api.Prefix
	for range draw(5) {
		l = append(l, prefix.Of(api.IP(draw(3)+10)<<24|0x00ffff00, []int{0, 8, 9, 24, 32}[draw(5)]))
	}
	b, e := prefix.Bytes(l...)
	if e != api.OK {
		t.Fatal(e)
	}
	return b
}

// drawnWith is attributes' bytes, of a session of four bytes or not, now and
// then with one less, one twice, or one that is wrong.
func drawnWith(t *testing.T, draw func(n int) int, four bool) []byte {
	t.Helper()
	a := drawn(draw, 1, 2, 3, 4)
	if draw(3) > 0 {
		a.Has |= bits(attrs.Pref)
	}
	if draw(4) == 0 {
		a = a.Without(byte(draw(9)))
	}
	if !four {
		a = update.Narrowed(a)
		ahead := drawnPath(draw, 2, 1, 2, 3, 4)
		a.Path = append(update.Narrowed(attrs.Attrs{Has: bits(attrs.Path), Path: ahead}).Path, a.Path...)
		if !a.Is(attrs.Path) {
			a.Path = nil
		}
		if draw(6) == 0 {
			a.Has |= bits(attrs.Aggregator4)
			a.By4 = attrs.By{AS: api.AS(draw(1 << 20))}
		}
	}
	b, e := attrs.Put(a, four)
	if e != api.OK {
		t.Fatalf("Put(%s, %v): %d", shown(a), four, e)
	}
	wrong := []string{"80 01 01 00", "40 63 01 07", "80 63 01 07", "c0 08 01 00", "40 06 01 01", "40 06 00", "c0 07 01 00", "40 05 01 00", "40"}
	switch draw(6) {
	case 0:
		b = append(b, raw(t, wrong[draw(len(wrong))])...)
	case 1:
		b = append(raw(t, wrong[draw(len(wrong)-1)]), b...)
	}
	return b
}

// drawnBody is one of these rows, now and then hurt.
func drawnBody(t *testing.T, draw func(n int) int, four bool) []byte {
	t.Helper()
	rows := [][]byte{drawnRow(t, draw), nil, drawnRow(t, draw)}
	if draw(8) > 0 {
		rows[1] = drawnWith(t, draw, four)
	}
	if draw(10) == 0 {
		at := draw(2) * 2
		rows[at] = append(rows[at], byte(draw(40)))
	}
	b := body(rows[0], rows[1], rows[2])
	switch draw(12) {
	case 0:
		b = b[:draw(len(b)+1)]
	case 1:
		b[draw(len(b))] ^= 1 << draw(8)
	}
	return b
}

// TestDrawnBodies: P11.4 and P11.5.
func TestDrawnBodies(t *testing.T) {
	draw := draws(3)
	counts, kinds := map[int]int{}, map[string]int{}
	for k := range 12000 {
		four := k&1 != 0
		b := drawnBody(t, draw, four)
		wantModel(t, b)
		r := model(b, update.Session{Four: four})
		counts[r.Fate.Class]++
		switch {
		case len(r.Announced) > 0 && len(r.Withdrawn) > 0:
			kinds["both"]++
		case len(r.Announced) > 0:
			kinds["announced"]++
		case len(r.Withdrawn) > 0:
			kinds["withdrawn"]++
		case r.Fate.Class == attrs.Reset:
			kinds[fmt.Sprint("reset ", r.Fate.Fault.Sub)]++
		}
	}
	for class := range 4 {
		if counts[class] < 300 {
			t.Errorf("of class %d only %d bodies were drawn", class, counts[class])
		}
	}
	for _, kind := range []string{"both", "announced", "withdrawn", "reset 1", "reset 2", "reset 10"} {
		if kinds[kind] < 100 {
			t.Errorf("of kind %s only %d bodies were drawn", kind, kinds[kind])
		}
	}
}

// drawnPrefixes are two lists of prefixes, none of which is in both, or twice.
func drawnPrefixes(draw func(n int) int) (l, m []api.Prefix) {
	there := map[api.Prefix]bool{}
	for range draw(30) {
		p := prefix.Of(api.IP(draw(1<<16))<<16|api.IP(draw(1<<16)), draw(33))
		if there[p] {
			continue
		}
		there[p] = true
		if draw(2) == 0 {
			l = append(l, p)
		} else {
			m = append(m, p)
		}
	}
	return l, m
}

// TestThereAndBack: P11.6.
func TestThereAndBack(t *testing.T) {
	draw := draws(4)
	for k := range 6000 {
		s := sessions()[k%8]
		a := drawn(draw, 1, 2, 3, 4)
		if !s.Four {
			a.Path = fuse.Bare(a.Path)
		}
		switch {
		case s.Outside:
			a = a.Without(attrs.Pref)
			s.Pref = false
		case s.Pref:
			a.Has |= bits(attrs.Pref)
		}
		u := update.Update{Attrs: a}
		u.Withdrawn, u.Announced = drawnPrefixes(draw)
		b, e := update.Bytes(u, s.Four)
		if e != api.OK {
			t.Fatalf("Bytes(%s, %v): %d", shown(u), s.Four, e)
		}
		want := result(attrs.None, settled(u.Withdrawn, nil), partial(a), settled(u.Announced, nil))
		if len(u.Announced) == 0 {
			want.Attrs = attrs.Attrs{}
			want.End = len(u.Withdrawn) == 0
		}
		wantRead(t, "there and back", b, s, want)
		// in order, it is laid as it was read
		again, e := update.Bytes(want.Update, s.Four)
		if e != api.OK || len(again) != len(b) {
			t.Fatalf("laid again: %d bytes, %d, want %d", len(again), e, len(b))
		}
		wantRead(t, "there and back again", again, s, want)
		if t.Failed() {
			t.FailNow()
		}
	}
}

// TestThereAndBackOfConfed: in a session of two bytes wide numbers of confed
// segments are lost, and nothing else.
func TestThereAndBackOfConfed(t *testing.T) {
	for _, c := range []struct{ told, came string }{
		{"(7) 10 70000", "(7) 10 70000"},
		{"(70000 7) 10", "(23456 7) 10"},
		{"(70000) [80000] 10 {90000}", "(23456) [23456] 10 {90000}"},
		{"(70000)", "(23456)"},
	} {
		a := paths{path: c.told, by: "70000 7"}.give(t, least())
		u := update.Update{Attrs: a, Announced: pre(t, "10.0.0.0/8")}
		b, e := update.Bytes(u, false)
		if e != api.OK {
			t.Fatal(e)
		}
		u.Attrs = paths{path: c.came, by: "70000 7"}.give(t, least())
		wantRead(t, "confed", b, update.Session{}, update.Result{Update: u})
	}
}

// TestNothingOfWithdraw: P11.7.
func TestNothingOfWithdraw(t *testing.T) {
	draw := draws(5)
	asked := 0
	for k := range 4000 {
		with := drawnWith(t, draw, k&1 != 0)
		withdrawn, announced := drawnRow(t, draw), drawnRow(t, draw)
		b := body(withdrawn, with, announced)
		for _, s := range sessions() {
			if _, fate := attrs.Get(with, s.Four, s.Outside); fate.Class != attrs.Withdraw {
				continue
			}
			asked++
			wantRead(t, "Withdraw", b, s, withdraw(standing(t, b)))
		}
	}
	if asked < 2000 {
		t.Errorf("only %d bodies were asked", asked)
	}
}

// TestAnySession: what is told in one session is read in any, whole or not.
func TestAnySession(t *testing.T) {
	draw := draws(6)
	for k := range 1500 {
		u := update.Update{Attrs: drawn(draw, 1, 2, 3, 4)}
		u.Withdrawn, u.Announced = drawnPrefixes(draw)
		b, e := update.Bytes(u, k&1 != 0)
		if e != api.OK {
			t.Fatal(e)
		}
		wantModel(t, b)
		cut := bytes.Clone(b[:draw(len(b)+1)])
		wantModel(t, cut)
	}
}
