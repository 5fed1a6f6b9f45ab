package attrs_test

import (
	"fmt"
	"math"
	"slices"
	"testing"

	"consulate/api"
	"consulate/attrs"
	"consulate/path"
)

// knowns are the types that are known, with the flags that the chapter's table
// has for them.
var knowns = []struct {
	typ, flags byte
}{
	{1, 0x40}, {2, 0x40}, {3, 0x40}, {4, 0x80}, {5, 0x40}, {6, 0x40},
	{7, 0xc0}, {8, 0xc0}, {17, 0xc0}, {18, 0xc0},
}

// flagsOf is what the table has for a type; 0, if it is not there.
func flagsOf(typ byte) byte {
	for _, k := range knowns {
		if k.typ == typ {
			return k.flags
		}
	}
	return 0
}

// of is the path of a text.
func of(t *testing.T, text string) path.Path {
	t.Helper()
	p, e := path.Parse(text)
	if e != api.OK {
		t.Fatalf("the test's text %q is none: %d", text, e)
	}
	return p
}

// shown is something as a test's failure tells it: what is long only in part.
// Lists without anything look alike, nil or not.
func shown(v any) string {
	s := fmt.Sprintf("%+v", v)
	if len(s) > 400 {
		return fmt.Sprint(s[:400], ".. of ", len(s))
	}
	return s
}

// same holds a against b, apart from what the package says.
func same(a, b attrs.Attrs) bool { return fmt.Sprintf("%+v", a) == fmt.Sprintf("%+v", b) }

// copied is a in new memory, apart from what the package does.
func copied(a attrs.Attrs) attrs.Attrs {
	a.Path, a.Path4 = copiedPath(a.Path), copiedPath(a.Path4)
	a.Communities = slices.Clone(a.Communities)
	a.Others = slices.Clone(a.Others)
	for k := range a.Others {
		a.Others[k].Value = slices.Clone(a.Others[k].Value)
	}
	return a
}

func copiedPath(p path.Path) path.Path {
	p = slices.Clone(p)
	for k := range p {
		p[k].Numbers = slices.Clone(p[k].Numbers)
	}
	return p
}

// bits is Has of these types.
func bits(types ...byte) uint32 {
	var has uint32
	for _, typ := range types {
		has |= 1 << typ
	}
	return has
}

// full has each known type, and others around them; none is as if not there.
func full(t *testing.T) attrs.Attrs {
	t.Helper()
	return attrs.Attrs{
		Has:         bits(1, 2, 3, 4, 5, 6, 7, 8, 17, 18),
		Origin:      2,
		Path:        of(t, "(7) 10 23456 {20,30}"),
		NextHop:     0x0a000001,
		Med:         5,
		Pref:        100,
		By:          attrs.By{AS: 23456, IP: 0x0a000002},
		Communities: []uint32{6, math.MaxUint32},
		Path4:       of(t, "10 70000 {20,30}"),
		By4:         attrs.By{AS: 70001, IP: 0x0a000003},
		Others: []attrs.Other{
			{Flags: 0xe0, Type: 0, Value: []byte{1}},
			{Flags: 0xc0, Type: 9},
			{Flags: 0xc0, Type: 16, Value: []byte{2, 3}},
			{Flags: 0xe0, Type: 19, Value: []byte{4, 5, 6}},
			{Flags: 0xc0, Type: 255, Value: []byte{7}},
		},
	}
}

// bare is a, but without what it says of a known type; that it has it stays.
func bare(a attrs.Attrs, typ byte) attrs.Attrs {
	switch typ {
	case 1:
		a.Origin = 0
	case 2:
		a.Path = nil
	case 3:
		a.NextHop = 0
	case 4:
		a.Med = 0
	case 5:
		a.Pref = 0
	case 7:
		a.By = attrs.By{}
	case 8:
		a.Communities = nil
	case 17:
		a.Path4 = nil
	case 18:
		a.By4 = attrs.By{}
	}
	return a
}

// less is a without a known type.
func less(a attrs.Attrs, typ byte) attrs.Attrs {
	a = bare(a, typ)
	a.Has &^= bits(typ)
	return a
}

// draws makes numbers below n that only look like chance.
func draws(seed uint32) func(n int) int {
	return func(n int) int {
		seed = seed*1664525 + 1013904223
		return int(seed>>8) % n
	}
}

func TestNumbers(t *testing.T) {
	got := []int{attrs.Origin, attrs.Path, attrs.NextHop, attrs.Med, attrs.Pref, attrs.Atomic, attrs.Aggregator, attrs.Communities,
		attrs.Path4, attrs.Aggregator4, attrs.None, attrs.Discard, attrs.Withdraw, attrs.Reset}
	if want := []int{1, 2, 3, 4, 5, 6, 7, 8, 17, 18, 0, 1, 2, 3}; !slices.Equal(got, want) {
		t.Errorf("the constants are %v, want %v", got, want)
	}
}

func TestIs(t *testing.T) {
	one := func(has uint32, types ...byte) attrs.Attrs {
		a := attrs.Attrs{Has: has}
		for _, typ := range types {
			a.Others = append(a.Others, attrs.Other{Flags: 0xc0, Type: typ})
		}
		return a
	}
	for k := range 256 {
		typ := byte(k)
		is := flagsOf(typ) != 0
		if got := full(t).Is(typ); got != (is || typ == 0 || typ == 9 || typ == 16 || typ == 19 || typ == 255) {
			t.Errorf("of all, Is(%d): %v", typ, got)
		}
		if (attrs.Attrs{}).Is(typ) {
			t.Errorf("of none, Is(%d)", typ)
		}
		if got := one(bits(typ)).Is(typ); got != is {
			t.Errorf("of its bit, Is(%d): %v, want %v", typ, got, is)
		}
		if one(^bits(typ), typ-1, typ+1).Is(typ) {
			t.Errorf("of all but its bit, Is(%d)", typ)
		}
		if got := one(0, 3, typ, 200).Is(typ); got == is {
			t.Errorf("of others, Is(%d): %v, want %v", typ, got, !is)
		}
		// the bit is what tells, whatever is said
		if is && (less(full(t), typ).Is(typ) || !bare(full(t), typ).Is(typ)) {
			t.Errorf("Is(%d) without its bit, or without what is said", typ)
		}
	}
}

func TestMissing(t *testing.T) {
	for k := range 1 << 10 {
		a := attrs.Attrs{}
		for j, known := range knowns {
			if k>>j&1 == 1 {
				a.Has |= bits(known.typ)
			}
		}
		// others are no help
		for typ := range byte(9) {
			a.Others = append(a.Others, attrs.Other{Flags: 0xc0, Type: typ})
		}
		var want byte
		switch {
		case k&1 == 0:
			want = 1
		case k&2 == 0:
			want = 2
		case k&4 == 0:
			want = 3
		}
		if got := a.Missing(false); got != want {
			t.Errorf("of %x, Missing(false): %d, want %d", a.Has, got, want)
		}
		if want == 0 && k&16 == 0 {
			want = 5
		}
		if got := a.Missing(true); got != want {
			t.Errorf("of %x, Missing(true): %d, want %d", a.Has, got, want)
		}
	}
	if a := full(t); a.Missing(true) != 0 || a.Missing(false) != 0 {
		t.Error("of all something is missing")
	}
}

// changed has what is in one thing alone another than a.
func changed(t *testing.T, a attrs.Attrs) map[string]attrs.Attrs {
	all := map[string]attrs.Attrs{}
	add := func(what string, change func(a *attrs.Attrs)) {
		b := copied(a)
		change(&b)
		all[what] = b
	}
	add("Origin", func(a *attrs.Attrs) { a.Origin ^= 1 })
	add("Path", func(a *attrs.Attrs) { a.Path = of(t, "(7) 10 23456 {30,20}") })
	add("a number of Path", func(a *attrs.Attrs) { a.Path[0].Numbers[0]++ })
	add("a kind of Path", func(a *attrs.Attrs) { a.Path[0].Kind = path.ConfedSet })
	add("no Path", func(a *attrs.Attrs) { a.Path = nil })
	add("NextHop", func(a *attrs.Attrs) { a.NextHop++ })
	add("Med", func(a *attrs.Attrs) { a.Med++ })
	add("Pref", func(a *attrs.Attrs) { a.Pref++ })
	add("By.AS", func(a *attrs.Attrs) { a.By.AS++ })
	add("By.IP", func(a *attrs.Attrs) { a.By.IP++ })
	add("a community", func(a *attrs.Attrs) { a.Communities[1]-- })
	add("order of communities", func(a *attrs.Attrs) { slices.Reverse(a.Communities) })
	add("a community less", func(a *attrs.Attrs) { a.Communities = a.Communities[:1] })
	add("a community more", func(a *attrs.Attrs) { a.Communities = append(a.Communities, 1) })
	add("Path4", func(a *attrs.Attrs) { a.Path4[1].Numbers[1]++ })
	add("no Path4", func(a *attrs.Attrs) { a.Path4 = nil })
	add("By4.AS", func(a *attrs.Attrs) { a.By4.AS++ })
	add("By4.IP", func(a *attrs.Attrs) { a.By4.IP++ })
	add("an other's flags", func(a *attrs.Attrs) { a.Others[4].Flags = 0xe0 })
	add("an other's type", func(a *attrs.Attrs) { a.Others[4].Type-- })
	add("an other's value", func(a *attrs.Attrs) { a.Others[4].Value[0]++ })
	add("an other's longer value", func(a *attrs.Attrs) { a.Others[4].Value = []byte{7, 0} })
	add("an other's empty value", func(a *attrs.Attrs) { a.Others[4].Value = nil })
	add("an other less", func(a *attrs.Attrs) { a.Others = a.Others[:4] })
	add("no others", func(a *attrs.Attrs) { a.Others = nil })
	add("order of others", func(a *attrs.Attrs) { slices.Reverse(a.Others) })
	for bit := range 32 {
		add(fmt.Sprint("bit ", bit), func(a *attrs.Attrs) { a.Has ^= 1 << bit })
	}
	return all
}

func TestSame(t *testing.T) {
	a := full(t)
	if !attrs.Same(a, a) || !attrs.Same(a, full(t)) || !attrs.Same(attrs.Attrs{}, attrs.Attrs{}) {
		t.Error("what is the same is not told so")
	}
	if attrs.Same(a, attrs.Attrs{}) || attrs.Same(attrs.Attrs{}, a) {
		t.Error("all and nothing are the same")
	}
	for what, b := range changed(t, a) {
		if attrs.Same(a, b) || attrs.Same(b, a) {
			t.Errorf("the same, but for %s", what)
		}
		if !attrs.Same(b, copied(b)) {
			t.Errorf("not the same as its copy, with another %s", what)
		}
	}
	// nil and empty lists are one
	none := attrs.Attrs{Path: path.Path{}, Communities: []uint32{}, Path4: path.Path{}, Others: []attrs.Other{}}
	if !attrs.Same(none, attrs.Attrs{}) || !attrs.Same(attrs.Attrs{}, none) {
		t.Error("nil and empty lists are two")
	}
	x := attrs.Attrs{Others: []attrs.Other{{Flags: 0xc0, Type: 9}}}
	y := attrs.Attrs{Others: []attrs.Other{{Flags: 0xc0, Type: 9, Value: []byte{}}}}
	if !attrs.Same(x, y) || !attrs.Same(y, x) {
		t.Error("nil and empty values are two")
	}
}

// wantNew scribbles over each list of what was answered, as far as it reaches:
// nothing that was given may change by that, and no other list of the answer.
func wantNew(t *testing.T, answered attrs.Attrs, given ...attrs.Attrs) {
	t.Helper()
	var was []attrs.Attrs
	for _, a := range given {
		was = append(was, copied(a))
	}
	check := func(what string, scribble func()) {
		before := parts(answered)
		scribble()
		for k := range given {
			if !same(given[k], was[k]) {
				t.Fatalf("%s shares memory with what was given", what)
			}
		}
		if differ(before, parts(answered)) > 1 {
			t.Fatalf("%s is in the answer twice", what)
		}
		scribble() // and it is as it was
	}
	for k, s := range slices.Concat(answered.Path, answered.Path4) {
		check(fmt.Sprint("segment ", k), func() { turn(s.Numbers) })
	}
	check("Communities", func() { turn(answered.Communities) })
	for k, o := range answered.Others {
		check(fmt.Sprint("other ", k), func() { turn(o.Value) })
	}
	for what, empty := range map[string]func(){
		"the path":          func() { clear(answered.Path[:cap(answered.Path)]) },
		"the path beside":   func() { clear(answered.Path4[:cap(answered.Path4)]) },
		"the row of others": func() { clear(answered.Others[:cap(answered.Others)]) },
	} {
		kept := copied(answered)
		empty()
		for k := range given {
			if !same(given[k], was[k]) {
				t.Fatalf("%s shares memory with what was given", what)
			}
		}
		copy(answered.Path, kept.Path)
		copy(answered.Path4, kept.Path4)
		copy(answered.Others, kept.Others)
	}
}

// turn changes a list as far as it reaches; a second time it is as it was.
func turn[N byte | uint32 | api.AS](l []N) {
	l = l[:cap(l)]
	for k := range l {
		l[k] = ^l[k]
	}
}

// parts are the lists of a.
func parts(a attrs.Attrs) []string {
	l := []string{fmt.Sprint(a.Communities)}
	for _, s := range slices.Concat(a.Path, a.Path4) {
		l = append(l, fmt.Sprint(s.Numbers))
	}
	for _, o := range a.Others {
		l = append(l, fmt.Sprint(o.Value))
	}
	return l
}

// differ counts in how many places a and b do.
func differ(a, b []string) int {
	n := 0
	for k := range a {
		if a[k] != b[k] {
			n++
		}
	}
	return n
}

func TestCopy(t *testing.T) {
	all := changed(t, full(t))
	all["nothing"] = attrs.Attrs{}
	all["full"] = full(t)
	for what, a := range all {
		was := copied(a)
		c := a.Copy()
		if !same(c, was) || !same(a, was) {
			t.Errorf("%s: Copy is %s, want %s", what, shown(c), shown(was))
		}
		wantNew(t, c, a)
	}
}

func TestWithout(t *testing.T) {
	for k := range 256 {
		typ := byte(k)
		a := full(t)
		c := a.Without(typ)
		want := less(full(t), typ)
		if flagsOf(typ) == 0 {
			want = full(t)
		}
		want.Others = slices.DeleteFunc(want.Others, func(o attrs.Other) bool { return o.Type == typ })
		if !same(c, want) || !same(a, full(t)) {
			t.Errorf("Without(%d): %s, want %s", typ, shown(c), shown(want))
		}
		if c.Is(typ) || !same(c.Without(typ), c) {
			t.Errorf("Without(%d) leaves it", typ)
		}
		wantNew(t, c, a)
		if got := (attrs.Attrs{}).Without(typ); !same(got, attrs.Attrs{}) {
			t.Errorf("of nothing, Without(%d): %s", typ, shown(got))
		}
	}
}

// TestWithoutOfWhatMayNotBe: others of that type go, whichever it is, and
// however many there are; and what is said without its bit.
func TestWithoutOfWhatMayNotBe(t *testing.T) {
	for k := range 256 {
		typ := byte(k)
		a := less(full(t), typ)
		if flagsOf(typ) == 0 {
			a = full(t)
		}
		want := copied(a)
		want.Others = []attrs.Other{{Flags: 1, Type: typ + 1, Value: []byte{1}}, {Flags: 3, Type: typ - 1}}
		a.Others = []attrs.Other{
			{Flags: 0xc0, Type: typ, Value: []byte{9}},
			{Flags: 1, Type: typ + 1, Value: []byte{1}},
			{Flags: 2, Type: typ},
			{Flags: 3, Type: typ - 1},
			{Flags: 0xe0, Type: typ, Value: []byte{8}},
		}
		was := copied(a)
		if c := a.Without(typ); !same(c, want) || !same(a, was) {
			t.Errorf("Without(%d): %s, want %s", typ, shown(c), shown(want))
		}
		if flagsOf(typ) != 0 {
			a := full(t)
			a.Has &^= bits(typ)
			if c := a.Without(typ); !same(c, less(full(t), typ)) {
				t.Errorf("without its bit, Without(%d): %s", typ, shown(c))
			}
		}
	}
}
