package update_test

import (
	"encoding/hex"
	"fmt"
	"slices"
	"strings"
	"testing"

	"consulate/api"
	"consulate/attrs"
	"consulate/fuse"
	"consulate/path"
	"consulate/prefix"
	"consulate/update"
)

// raw is the bytes of hexadecimal digits.
func raw(t *testing.T, text string) []byte {
	t.Helper()
	b, err := hex.DecodeString(strings.ReplaceAll(text, " ", ""))
	if err != nil {
		t.Fatal(err)
	}
	return b
}

// pre is the prefixes of a text, blanks between.
func pre(t *testing.T, text string) []api.Prefix {
	t.Helper()
	var l []api.Prefix
	for _, s := range strings.Fields(text) {
		p, e := prefix.Parse(s)
		if e != api.OK {
			t.Fatalf("the test's prefix %q is none: %d", s, e)
		}
		l = append(l, p)
	}
	return l
}

// pathOf is the path of a text.
func pathOf(t *testing.T, text string) path.Path {
	t.Helper()
	p, e := path.Parse(text)
	if e != api.OK {
		t.Fatalf("the test's text %q is none: %d", text, e)
	}
	return p
}

// byOf is who aggregated, of a number and an address's last byte.
func byOf(t *testing.T, text string) attrs.By {
	t.Helper()
	var as, ip uint32
	if _, err := fmt.Sscan(text, &as, &ip); err != nil {
		t.Fatal(err)
	}
	return attrs.By{AS: api.AS(as), IP: 0x0a000000 | api.IP(ip)}
}

// shown is something as a test's failure tells it: what is long only in part.
// Lists without anything look alike, nil or not.
func shown(v any) string {
	s := fmt.Sprintf("%+v", v)
	if len(s) > 600 {
		return fmt.Sprint(s[:600], ".. of ", len(s))
	}
	return s
}

// same holds a against b, apart from what the package says.
func same(a, b any) bool { return fmt.Sprintf("%+v", a) == fmt.Sprintf("%+v", b) }

// draws makes numbers below n that only look like chance.
func draws(seed uint32) func(n int) int {
	return func(n int) int {
		seed = seed*1664525 + 1013904223
		return int(seed>>8) % n
	}
}

// bits is Has of these types.
func bits(types ...byte) uint32 {
	var has uint32
	for _, typ := range types {
		has |= 1 << typ
	}
	return has
}

func copiedPath(p path.Path) path.Path {
	p = slices.Clone(p)
	for k := range p {
		p[k].Numbers = slices.Clone(p[k].Numbers)
	}
	return p
}

// copied is a in new memory.
func copied(a attrs.Attrs) attrs.Attrs {
	a.Path, a.Path4 = copiedPath(a.Path), copiedPath(a.Path4)
	a.Communities = slices.Clone(a.Communities)
	a.Others = slices.Clone(a.Others)
	for k := range a.Others {
		a.Others[k].Value = slices.Clone(a.Others[k].Value)
	}
	return a
}

// partial is a, its others Partial.
func partial(a attrs.Attrs) attrs.Attrs {
	a = copied(a)
	for k := range a.Others {
		a.Others[k].Flags |= 0x20
	}
	return a
}

// bare is a without what goes beside.
func bare(a attrs.Attrs) attrs.Attrs {
	a = copied(a)
	a.Has &^= bits(attrs.Path4, attrs.Aggregator4)
	a.Path4, a.By4 = nil, attrs.By{}
	return a
}

// rest is what attributes may have beside the path and the aggregator.
func rest() attrs.Attrs {
	return attrs.Attrs{
		Has:         bits(attrs.Origin, attrs.NextHop, attrs.Med, attrs.Pref, attrs.Atomic, attrs.Communities),
		Origin:      2,
		NextHop:     0x0a000001,
		Med:         70000,
		Pref:        80000,
		Communities: []uint32{90000, 5},
		Others: []attrs.Other{
			{Flags: 0xe0, Type: 0, Value: []byte{1}},
			{Flags: 0xc0, Type: 16, Value: []byte{2, 3}},
			{Flags: 0xe0, Type: 19, Value: []byte{4, 5, 6}},
			{Flags: 0xc0, Type: 255},
		},
	}
}

// paths is what attributes tell of the path and of the aggregator, as texts;
// the empty text is nothing.
type paths struct{ path, by, path4, by4 string }

// give gives a what p tells.
func (p paths) give(t *testing.T, a attrs.Attrs) attrs.Attrs {
	t.Helper()
	if p.path != "" {
		a.Has |= bits(attrs.Path)
		a.Path = pathOf(t, p.path)
	}
	if p.by != "" {
		a.Has |= bits(attrs.Aggregator)
		a.By = byOf(t, p.by)
	}
	if p.path4 != "" {
		a.Has |= bits(attrs.Path4)
		a.Path4 = pathOf(t, p.path4)
	}
	if p.by4 != "" {
		a.Has |= bits(attrs.Aggregator4)
		a.By4 = byOf(t, p.by4)
	}
	return a
}

// full has all that is told in one session, with wide numbers.
func full(t *testing.T) attrs.Attrs {
	t.Helper()
	return paths{path: "10 70000 {20,80000}", by: "90000 7"}.give(t, rest())
}

// list is one list of an answer: how it looks, and a change of it, as far as it
// reaches, that undoes itself the second time.
type list struct {
	name string
	look func() string
	turn func()
}

// numbers is a list of numbers.
func numbers[N byte | uint32 | api.AS](name string, l []N) list {
	return list{name, func() string { return fmt.Sprint(l) }, func() {
		l := l[:cap(l)]
		for k := range l {
			l[k] = ^l[k]
		}
	}}
}

// prefixes is a list of prefixes.
func prefixes(name string, l []api.Prefix) list {
	return list{name, func() string { return fmt.Sprint(l) }, func() {
		l := l[:cap(l)]
		for k := range l {
			l[k] = api.Prefix{IP: ^l[k].IP, Bits: ^l[k].Bits}
		}
	}}
}

// lists are all those of attributes.
func lists(a attrs.Attrs) []list {
	all := []list{numbers("Communities", a.Communities)}
	for k, s := range slices.Concat(a.Path, a.Path4) {
		all = append(all, numbers(fmt.Sprint("segment ", k), s.Numbers))
	}
	for k, o := range a.Others {
		all = append(all, numbers(fmt.Sprint("other ", k), o.Value))
	}
	for name, p := range map[string]path.Path{"Path": a.Path, "Path4": a.Path4} {
		kinds := func() string {
			s := ""
			for _, segment := range p {
				s += fmt.Sprint(segment.Kind, " ")
			}
			return s
		}
		all = append(all, list{name, kinds, func() {
			p := p[:cap(p)]
			for k := range p {
				p[k].Kind = ^p[k].Kind
			}
		}})
	}
	types := func() string {
		s := ""
		for _, o := range a.Others {
			s += fmt.Sprint(o.Type, " ")
		}
		return s
	}
	return append(all, list{"Others", types, func() {
		l := a.Others[:cap(a.Others)]
		for k := range l {
			l[k].Type = ^l[k].Type
		}
	}})
}

// wantApart asks that no list of an answer shares memory with what was given,
// nor with another list of it.
func wantApart(t *testing.T, what string, answered []list, given func() string) {
	t.Helper()
	looks := func(but int) string {
		s := given()
		for k, l := range answered {
			if k != but {
				s += l.look()
			}
		}
		return s
	}
	for k, l := range answered {
		was := looks(k)
		l.turn()
		if looks(k) != was {
			t.Errorf("%s: %s shares memory", what, l.name)
		}
		l.turn()
	}
}

// wantChanged asks what one of Narrowed and Widened makes of attributes.
func wantChanged(t *testing.T, what string, call func(attrs.Attrs) attrs.Attrs, a, want attrs.Attrs) {
	t.Helper()
	was := copied(a)
	got := call(a)
	if !same(got, want) {
		t.Errorf("%s of %s: %s, want %s", what, shown(a), shown(got), shown(want))
	}
	wantApart(t, what, lists(got), func() string { return fmt.Sprint(a) })
	if !same(a, was) {
		t.Errorf("%s changed %s", what, shown(was))
	}
	if again := call(a); !same(again, want) {
		t.Errorf("%s once more: %s, want %s", what, shown(again), shown(want))
	}
}

// wantPaths asks the same with nothing else, and with all the rest.
func wantPaths(t *testing.T, what string, call func(attrs.Attrs) attrs.Attrs, p, want paths) {
	t.Helper()
	wantChanged(t, what, call, p.give(t, attrs.Attrs{}), want.give(t, attrs.Attrs{}))
	wantChanged(t, what, call, p.give(t, rest()), want.give(t, rest()))
}

func TestNarrowed(t *testing.T) {
	for _, c := range []struct{ a, want paths }{
		{paths{}, paths{}},
		{paths{path: "-"}, paths{path: "-"}},
		{paths{path: "10 20"}, paths{path: "10 20"}},
		{paths{path: "0 65535 23456"}, paths{path: "0 65535 23456"}},
		{paths{path: "10 65536"}, paths{path: "10 23456", path4: "10 65536"}},
		{paths{path: "4294967295"}, paths{path: "23456", path4: "4294967295"}},
		{paths{path: "1 | 70000 2"}, paths{path: "1 | 23456 2", path4: "1 | 70000 2"}},
		{paths{path: "10 {20,70000}"}, paths{path: "10 {20,23456}", path4: "10 {20,70000}"}},
		{paths{path: "(7) 10 70000"}, paths{path: "(7) 10 23456", path4: "10 70000"}},
		{paths{path: "(70000) [80000] 10"}, paths{path: "(23456) [23456] 10"}},
		{paths{path: "(70000)"}, paths{path: "(23456)"}},
		{paths{path: "1 (80000) 2 [5] {70000}"}, paths{path: "1 (23456) 2 [5] {23456}", path4: "1 | 2 {70000}"}},
		{paths{by: "65535 7"}, paths{by: "65535 7"}},
		{paths{by: "23456 7"}, paths{by: "23456 7"}},
		{paths{by: "0 0"}, paths{by: "0 0"}},
		{paths{by: "65536 7"}, paths{by: "23456 7", by4: "65536 7"}},
		{paths{by: "4294967295 9"}, paths{by: "23456 9", by4: "4294967295 9"}},
		{paths{path: "5", by: "70000 7"}, paths{path: "5", by: "23456 7", by4: "70000 7"}},
		{paths{path: "70000", by: "5 7"}, paths{path: "23456", by: "5 7", path4: "70000"}},
		{paths{path: "70000", by: "80000 7"}, paths{path: "23456", by: "23456 7", path4: "70000", by4: "80000 7"}},
		// what was beside ahead is gone
		{paths{path4: "70000"}, paths{}},
		{paths{by4: "70000 7"}, paths{}},
		{paths{path: "10 20", path4: "70000"}, paths{path: "10 20"}},
		{paths{path: "(70000)", path4: "70000"}, paths{path: "(23456)"}},
		{paths{path: "10 80000", path4: "70000"}, paths{path: "10 23456", path4: "10 80000"}},
		{paths{by: "5 7", by4: "70000 8"}, paths{by: "5 7"}},
		{paths{by: "23456 7", by4: "70000 8"}, paths{by: "23456 7"}},
		{paths{by: "80000 7", by4: "70000 8"}, paths{by: "23456 7", by4: "80000 7"}},
		{paths{path: "5", by4: "70000 8"}, paths{path: "5"}},
		{paths{by: "5 6", path4: "70000"}, paths{by: "5 6"}},
		{paths{"10 23456", "23456 7", "10 70000", "80000 7"}, paths{path: "10 23456", by: "23456 7"}},
	} {
		wantPaths(t, "Narrowed", update.Narrowed, c.a, c.want)
	}
}

func TestWidened(t *testing.T) {
	for _, c := range []struct{ a, want paths }{
		{paths{}, paths{}},
		{paths{path: "-"}, paths{path: "-"}},
		{paths{path: "(7) 10 {20}"}, paths{path: "(7) 10 {20}"}},
		{paths{path: "10 23456"}, paths{path: "10 23456"}},
		{paths{path: "10 23456", path4: "10 70000"}, paths{path: "10 70000"}},
		{paths{path: "5 10 23456", path4: "10 70000"}, paths{path: "5 10 70000"}},
		{paths{path: "23456", path4: "10 70000"}, paths{path: "23456"}},
		{paths{path: "-", path4: "70000"}, paths{path: "-"}},
		{paths{path: "(7) 5 23456", path4: "70000"}, paths{path: "(7) 5 70000"}},
		{paths{path: "5 {1,2} 23456", path4: "{1,2} 70000"}, paths{path: "5 {1,2} 70000"}},
		// who aggregated
		{paths{by: "5 7"}, paths{by: "5 7"}},
		{paths{by: "23456 7"}, paths{by: "23456 7"}},
		{paths{by: "23456 7", by4: "70000 8"}, paths{by: "70000 8"}},
		{paths{by: "23456 7", by4: "5 8"}, paths{by: "5 8"}},
		{paths{by: "23456 7", by4: "0 0"}, paths{by: "0 0"}},
		{paths{by: "23455 7", by4: "70000 8"}, paths{by: "23455 7"}},
		{paths{by4: "70000 8"}, paths{}},
		// and the path with that
		{paths{"5 23456", "23456 7", "70000", "80000 8"}, paths{path: "5 70000", by: "80000 8"}},
		{paths{"5 23456", "23457 7", "70000", "80000 8"}, paths{path: "5 23456", by: "23457 7"}},
		{paths{"5 23456", "0 7", "70000", "80000 8"}, paths{path: "5 23456", by: "0 7"}},
		{paths{"5 23456", "9 7", "70000", ""}, paths{path: "5 70000", by: "9 7"}},
		{paths{"5 23456", "23456 7", "70000", ""}, paths{path: "5 70000", by: "23456 7"}},
		{paths{"5 23456", "", "70000", "80000 8"}, paths{path: "5 70000"}},
		{paths{"5 23456", "9 7", "", "80000 8"}, paths{path: "5 23456", by: "9 7"}},
		{paths{"5 23456", "23456 7", "", "80000 8"}, paths{path: "5 23456", by: "80000 8"}},
		// without a path
		{paths{path4: "70000"}, paths{}},
		{paths{path4: "70000", by: "23456 7", by4: "80000 8"}, paths{by: "80000 8"}},
	} {
		wantPaths(t, "Widened", update.Widened, c.a, c.want)
	}
}

// TestWidenedTooLong: what is fused may have more segments than a path has.
func TestWidenedTooLong(t *testing.T) {
	a := fusing(20, 13)
	want := bare(a)
	want.Path = slices.Concat(a.Path[:20], a.Path4)
	wantChanged(t, "Widened", update.Widened, a, want)
	if len(want.Path) != 33 || want.May() {
		t.Error("the test's path may be")
	}
}

// TestNumbersOfWhatMayNotBe: of paths that may not be comes what fuse tells.
func TestNumbersOfWhatMayNotBe(t *testing.T) {
	draw := draws(7)
	odd := func() path.Path {
		p := drawnPath(draw, 3, 0, 1, 2, 3, 4, 5, 255)
		if len(p) > 0 && draw(3) == 0 {
			p[draw(len(p))].Numbers = nil
		}
		return p
	}
	for range 3000 {
		a := rest()
		a.Has |= bits(attrs.Path)
		a.Path = odd()
		want := copied(a)
		narrow, beside, has := fuse.Narrow(a.Path)
		want.Path = narrow
		if has {
			want.Has |= bits(attrs.Path4)
			want.Path4 = beside
		}
		if got := update.Narrowed(a); !same(got, want) {
			t.Fatalf("Narrowed of %s: %s, want %s", shown(a), shown(got), shown(want))
		}
		want = copied(a)
		if draw(2) == 0 {
			a.Has |= bits(attrs.Path4)
			a.Path4 = odd()
			want.Path = fuse.Fuse(a.Path, a.Path4)
		}
		if got := update.Widened(a); !same(got, want) {
			t.Fatalf("Widened of %s: %s, want %s", shown(a), shown(got), shown(want))
		}
	}
}

// fusing has a path of so many Sets and a Sequence, and a path of so many Sets
// beside it, which is fused with all Sets of the first one.
func fusing(ahead, beside int) attrs.Attrs {
	set := path.Segment{Kind: path.Set, Numbers: []api.AS{1}}
	a := attrs.Attrs{Has: bits(attrs.Origin, attrs.Path, attrs.NextHop, attrs.Path4), NextHop: 0x0a000001}
	for range ahead {
		a.Path = append(a.Path, set)
	}
	a.Path = append(a.Path, path.Segment{Kind: path.Sequence, Numbers: slices.Repeat([]api.AS{23456}, beside)})
	set.Numbers = []api.AS{70000, 2}
	for range beside {
		a.Path4 = append(a.Path4, set)
	}
	return copied(a)
}

// TestThereAndBackOfNumbers: without confed segments nothing is lost.
func TestThereAndBackOfNumbers(t *testing.T) {
	draw := draws(1)
	for range 500 {
		a := drawn(draw, path.Set, path.Sequence)
		narrowed := update.Narrowed(a)
		for _, n := range narrowed.Path.All {
			if n > 65535 {
				t.Fatalf("of %s the path is not narrow: %s", shown(a), shown(narrowed))
			}
		}
		if narrowed.By.AS > 65535 {
			t.Fatalf("of %s the aggregator is not narrow: %s", shown(a), shown(narrowed))
		}
		wantChanged(t, "Widened of Narrowed", update.Widened, narrowed, a)
		again := bare(a)
		again.Path, again.By = narrowed.Path, narrowed.By
		wantChanged(t, "Narrowed of Narrowed", update.Narrowed, narrowed, again)
		if t.Failed() {
			t.FailNow()
		}
	}
}

// drawnPath is one of up to so many segments, of these kinds.
func drawnPath(draw func(n int) int, many int, kinds ...byte) path.Path {
	var p path.Path
	top := []int{1 << 16, 1 << 18}[draw(2)]
	for range draw(many + 1) {
		s := path.Segment{Kind: kinds[draw(len(kinds))]}
		for range draw(4) + 1 {
			s.Numbers = append(s.Numbers, api.AS(draw(top)))
		}
		p = append(p, s)
	}
	return p
}

// drawn is attributes that may be told, with Origin, Path and NextHop, and a
// path of these kinds.
func drawn(draw func(n int) int, kinds ...byte) attrs.Attrs {
	a := attrs.Attrs{
		Has:     bits(attrs.Origin, attrs.Path, attrs.NextHop),
		Origin:  byte(draw(3)),
		Path:    drawnPath(draw, 4, kinds...),
		NextHop: api.IP(draw(126)+1)<<24 | api.IP(draw(1<<24)),
	}
	if draw(2) == 0 {
		a.Has |= bits(attrs.Med)
		a.Med = uint32(draw(1 << 24))
	}
	if draw(2) == 0 {
		a.Has |= bits(attrs.Pref)
		a.Pref = uint32(draw(1<<24)) << 8
	}
	if draw(2) == 0 {
		a.Has |= bits(attrs.Atomic)
	}
	if draw(2) == 0 {
		a.Has |= bits(attrs.Aggregator)
		a.By = attrs.By{AS: api.AS([]int{23456, draw(1 << 16), draw(1 << 24)}[draw(3)]), IP: api.IP(draw(1 << 24))}
	}
	if draw(2) == 0 {
		a.Has |= bits(attrs.Communities)
		for range draw(70) + 1 {
			a.Communities = append(a.Communities, uint32(draw(1<<24)))
		}
	}
	for typ := 20 + draw(300); typ < 256; typ += 1 + draw(90) {
		v := slices.Repeat([]byte{byte(draw(256))}, draw(300))
		a.Others = append(a.Others, attrs.Other{Flags: []byte{0xc0, 0xe0}[draw(2)], Type: byte(typ), Value: v})
	}
	return a
}

func wantTold(t *testing.T, what string, a attrs.Attrs, four bool, b []byte, e api.Errno) {
	t.Helper()
	was := copied(a)
	gotB, gotE := update.Told(a, four)
	if !same(gotB, b) || gotE != e {
		t.Errorf("%s: Told(%s, %v): % x, %d, want % x, %d", what, shown(a), four, gotB, gotE, b, e)
	}
	wantApart(t, what, []list{numbers("the answer", gotB)}, func() string { return fmt.Sprint(a) })
	if !same(a, was) {
		t.Errorf("%s: Told changed %s", what, shown(was))
	}
	if again, _ := update.Told(a, four); !same(again, b) {
		t.Errorf("%s: told otherwise the second time", what)
	}
}

func TestTold(t *testing.T) {
	for _, c := range []struct {
		p         paths
		four, two string
	}{
		{paths{}, "", ""},
		{paths{path: "-"}, "40 02 00", "40 02 00"},
		{paths{path: "10 20"}, "40 02 0a 02 02 0000000a 00000014", "40 02 06 02 02 000a 0014"},
		{paths{path: "10 70000"}, "40 02 0a 02 02 0000000a 00011170", "40 02 06 02 02 000a 5ba0 c0 11 0a 02 02 0000000a 00011170"},
		{paths{path: "(70000) 10"}, "40 02 0c 03 01 00011170 02 01 0000000a", "40 02 08 03 01 5ba0 02 01 000a"},
		{paths{path: "(7) 70000"}, "40 02 0c 03 01 00000007 02 01 00011170", "40 02 08 03 01 0007 02 01 5ba0 c0 11 06 02 01 00011170"},
		{paths{by: "5 7"}, "c0 07 08 00000005 0a000007", "c0 07 06 0005 0a000007"},
		{paths{by: "23456 7"}, "c0 07 08 00005ba0 0a000007", "c0 07 06 5ba0 0a000007"},
		{paths{by: "70000 7"}, "c0 07 08 00011170 0a000007", "c0 07 06 5ba0 0a000007 c0 12 08 00011170 0a000007"},
	} {
		a := c.p.give(t, attrs.Attrs{})
		wantTold(t, "numbers", a, true, raw(t, c.four), api.OK)
		wantTold(t, "numbers", a, false, raw(t, c.two), api.OK)
	}
	wantTold(t, "the rest", full(t), false, slices.Concat(
		raw(t, "e0 00 01 01  40 01 01 02"),
		raw(t, "40 02 0c 02 02 000a 5ba0 01 02 0014 5ba0"),
		raw(t, "40 03 04 0a000001  80 04 04 00011170  40 05 04 00013880  40 06 00"),
		raw(t, "c0 07 06 5ba0 0a000007  c0 08 08 00015f90 00000005  c0 10 02 02 03"),
		raw(t, "c0 11 14 02 02 0000000a 00011170 01 02 00000014 00013880"),
		raw(t, "c0 12 08 00015f90 0a000007  e0 13 03 04 05 06  c0 ff 00"),
	), api.OK)
}

// TestToldBeside: attributes with what goes beside are of no session that tells.
func TestToldBeside(t *testing.T) {
	for _, p := range []paths{
		{path4: "70000"}, {by4: "70000 7"}, {path4: "5"}, {by4: "5 7"},
		{"10 23456", "23456 7", "10 70000", "80000 8"},
		{path: "10", path4: "70000"}, {by: "5 7", by4: "5 7"}, {path: "10", by4: "70000 7"},
	} {
		for _, four := range []bool{false, true} {
			wantTold(t, "beside", p.give(t, attrs.Attrs{}), four, nil, api.ErrArg)
			wantTold(t, "beside", p.give(t, rest()), four, nil, api.ErrArg)
		}
	}
}

// wrongs are attributes that may not be, each by one thing.
func wrongs(t *testing.T) map[string]attrs.Attrs {
	all := map[string]attrs.Attrs{}
	add := func(what string, change func(a *attrs.Attrs)) {
		a := full(t)
		change(&a)
		all[what] = a
	}
	add("Origin", func(a *attrs.Attrs) { a.Origin = 3 })
	add("a kind", func(a *attrs.Attrs) { a.Path[0].Kind = 5 })
	add("no numbers", func(a *attrs.Attrs) { a.Path[1].Numbers = nil })
	add("256 numbers", func(a *attrs.Attrs) { a.Path[0].Numbers = make([]api.AS, 256) })
	add("33 segments", func(a *attrs.Attrs) { a.Path = slices.Repeat(a.Path[:1], 33) })
	add("NextHop 0", func(a *attrs.Attrs) { a.NextHop = 0 })
	add("NextHop 127", func(a *attrs.Attrs) { a.NextHop = 0x7f000001 })
	add("no communities", func(a *attrs.Attrs) { a.Communities = nil })
	add("a bit that is none", func(a *attrs.Attrs) { a.Has |= 1 << 9 })
	add("others' order", func(a *attrs.Attrs) { slices.Reverse(a.Others) })
	add("an other's flags", func(a *attrs.Attrs) { a.Others[0].Flags = 0x80 })
	add("an other's type", func(a *attrs.Attrs) { a.Others[0].Type = 1 })
	add("an other's length", func(a *attrs.Attrs) { a.Others[0].Value = make([]byte, 65536) })
	return all
}

func TestToldWrong(t *testing.T) {
	for what, a := range wrongs(t) {
		wantTold(t, what, a, true, nil, api.ErrArg)
		wantTold(t, what, a, false, nil, api.ErrArg)
	}
}

// TestToldIsPut: told is what attrs lays, in four bytes as it is.
func TestToldIsPut(t *testing.T) {
	draw := draws(2)
	for range 3000 {
		a := drawn(draw, 1, 2, 3, 4)
		a.Has &^= bits(attrs.Origin)
		a.Origin = 0
		for _, four := range []bool{false, true} {
			of := a
			if !four {
				of = update.Narrowed(a)
			}
			b, e := attrs.Put(of, four)
			if e != api.OK {
				t.Fatalf("Put(%s, %v): %d", shown(of), four, e)
			}
			wantTold(t, "drawn", a, four, b, api.OK)
		}
		if t.Failed() {
			t.FailNow()
		}
	}
}
