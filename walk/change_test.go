package walk_test

import (
	"slices"
	"testing"

	"consulate/api"
	"consulate/path"
	"consulate/walk"
)

func wantPrepend(t *testing.T, p path.Path, kind byte, n api.AS, want path.Path, e api.Errno) {
	t.Helper()
	got, gotE := walk.Prepend(p, kind, n)
	if !same(got, want) || gotE != e {
		t.Errorf("Prepend(%s, %d, %d): %s, %d, want %s, %d", shown(p), kind, n, shown(got), gotE, shown(want), e)
	}
}

func wantStrip(t *testing.T, p, want path.Path) {
	t.Helper()
	if got := walk.Strip(p); !same(got, want) {
		t.Errorf("Strip(%s): %s, want %s", shown(p), shown(got), shown(want))
	}
}

func wantReplace(t *testing.T, p path.Path, old, by api.AS, want path.Path) {
	t.Helper()
	if got := walk.Replace(p, old, by); !same(got, want) {
		t.Errorf("Replace(%s, %d, %d): %s, want %s", shown(p), old, by, shown(got), shown(want))
	}
}

func TestPrepend(t *testing.T) {
	for _, c := range []struct {
		p    string
		kind byte
		n    api.AS
		want string
	}{
		{"-", 2, 7, "7"},
		{"-", 3, 7, "(7)"},
		{"-", 3, 0, "(0)"},
		{"10 20", 2, 7, "7 10 20"},
		{"10 20", 2, 10, "10 10 20"},
		{"10 20", 2, 70000, "70000 10 20"},
		{"10 20", 3, 7, "(7) 10 20"},
		{"(10 20)", 3, 7, "(7 10 20)"},
		{"(10 20)", 2, 7, "7 (10 20)"},
		{"{10,20}", 2, 7, "7 {10,20}"},
		{"{10,20}", 3, 7, "(7) {10,20}"},
		{"[10,20]", 2, 7, "7 [10,20]"},
		{"[10,20]", 3, 7, "(7) [10,20]"},
		{"1 | 2", 2, 7, "7 1 | 2"},
		{"(1) (2)", 3, 7, "(7 1) (2)"},
		{"[1] (2) 3", 3, 7, "(7) [1] (2) 3"},
		{"(1) 2", 2, 7, "7 (1) 2"},
		{"(65001 65002) 10 {20,30}", 3, 65003, "(65003 65001 65002) 10 {20,30}"},
		{"10 {20,30}", 2, 100, "100 10 {20,30}"},
	} {
		wantPrepend(t, of(t, c.p), c.kind, c.n, of(t, c.want), api.OK)
	}
	for _, n := range edges {
		wantPrepend(t, path.Path{seg(2, 5)}, 2, n, path.Path{seg(2, n, 5)}, api.OK)
		wantPrepend(t, path.Path{}, 3, n, path.Path{seg(3, n)}, api.OK)
	}
}

// TestPrependAtLengths: from 255 numbers on a new segment stands ahead, and
// from 32 segments on there is no room for it.
func TestPrependAtLengths(t *testing.T) {
	for _, kind := range []byte{path.Sequence, path.ConfedSequence} {
		for first := byte(1); first <= 4; first++ {
			for n := 1; n <= 255; n++ {
				for _, segments := range []int{1, 2, 31, 32} {
					wantPrependAhead(t, append(path.Path{seg(first, row(n)...)}, many(segments-1, 1)...), kind)
				}
			}
			for segments := 1; segments <= 32; segments++ {
				wantPrependAhead(t, many(segments, int(first)), kind)
			}
		}
	}
}

// wantPrependAhead puts a number ahead of a path that has some segment.
func wantPrependAhead(t *testing.T, p path.Path, kind byte) {
	t.Helper()
	switch {
	case p[0].Kind == kind && len(p[0].Numbers) < 255:
		l := append([]api.AS{70001}, p[0].Numbers...)
		wantPrepend(t, p, kind, 70001, append(path.Path{seg(kind, l...)}, p[1:]...), api.OK)
	case len(p) < 32:
		wantPrepend(t, p, kind, 70001, append(path.Path{seg(kind, 70001)}, p...), api.OK)
	default:
		wantPrepend(t, p, kind, 70001, nil, api.ErrFull)
	}
}

// TestPrependOfManyNumbers puts ahead until nothing goes any more.
func TestPrependOfManyNumbers(t *testing.T) {
	for _, kind := range []byte{path.Sequence, path.ConfedSequence} {
		var p path.Path
		var all []api.AS
		for n := range api.AS(32 * 255) {
			q, e := walk.Prepend(p, kind, n)
			if e != api.OK {
				t.Fatal(n, e)
			}
			p, all = q, append(all, n)
		}
		slices.Reverse(all)
		var want path.Path
		for l := range slices.Chunk(all, 255) {
			want = append(want, seg(kind, l...))
		}
		if !same(p, want) {
			t.Fatalf("Prepend, again and again: %s, want %s", shown(p), shown(want))
		}
		wantPrepend(t, p, kind, 1, nil, api.ErrFull)
		wantPrepend(t, p, 5-kind, 1, nil, api.ErrFull)
	}
}

// TestPrependOfWhatMayNotBe: that, and a kind that is none for it, goes ahead
// of a path that is full.
func TestPrependOfWhatMayNotBe(t *testing.T) {
	for _, p := range wrongs() {
		for kind := range 256 {
			wantPrepend(t, p, byte(kind), 1, nil, api.ErrArg)
		}
	}
	for kind := range 256 {
		if kind == path.Sequence || kind == path.ConfedSequence {
			continue
		}
		for _, p := range []path.Path{nil, {seg(1, 1)}, {seg(2, 1)}, {seg(3, 1)}, {seg(4, 1)}, many(32, 1), many(32, 4)} {
			wantPrepend(t, p, byte(kind), 1, nil, api.ErrArg)
		}
	}
}

func TestStrip(t *testing.T) {
	for text, want := range map[string]string{
		"-":                        "-",
		"10":                       "10",
		"{10}":                     "{10}",
		"(10)":                     "-",
		"[10]":                     "-",
		"(1 2) [3,4] (5)":          "-",
		"(65001 65002) 10 {20,30}": "10 {20,30}",
		"[65001] {20,30} 10":       "{20,30} 10",
		"1 2 (3) 4 [5] {6,7} (8)":  "1 2 | 4 {6,7}",
		"1 [2] 3 | 4 (5) 6":        "1 | 3 | 4 | 6",
		"{1} (2) {1} [1] 1":        "{1} {1} 1",
		"1 | 2 | 3":                "1 | 2 | 3",
	} {
		wantStrip(t, of(t, text), of(t, want))
	}
	for kind := 1; kind <= 4; kind++ {
		p := many(32, kind)
		var want path.Path
		for _, s := range p {
			if s.Kind < 3 {
				want = append(want, s)
			}
		}
		wantStrip(t, p, want)
	}
}

func TestStripOfWhatMayNotBe(t *testing.T) {
	for _, p := range wrongs() {
		wantStrip(t, p, nil)
	}
}

func TestReplace(t *testing.T) {
	for _, c := range []struct {
		p       string
		old, by api.AS
		want    string
	}{
		{"-", 1, 2, "-"},
		{"-", 0, 2, "-"},
		{"1", 1, 2, "2"},
		{"1", 2, 1, "1"},
		{"1", 1, 1, "1"},
		{"1 2 3", 2, 0, "1 0 3"},
		{"1 0 3", 0, 2, "1 2 3"},
		{"1 1 2 1", 1, 3, "3 3 2 3"},
		{"(1 2) [1,2] 1 2 {1,2}", 1, 70000, "(70000 2) [70000,2] 70000 2 {70000,2}"},
		{"(1 2) [1,2] 1 2 {1,2}", 2, 1, "(1 1) [1,1] 1 1 {1,1}"},
		{"(1 2) [1,2] 1 2 {1,2}", 3, 1, "(1 2) [1,2] 1 2 {1,2}"},
		{"65537 1 65536", 1, 5, "65537 5 65536"},
		{"65537 1 65536", 65537, 5, "5 1 65536"},
		{"1 | 1", 1, 2, "2 | 2"},
	} {
		wantReplace(t, of(t, c.p), c.old, c.by, of(t, c.want))
	}
	p := slices.Repeat(path.Path{seg(2, row(255)...)}, 32)
	want := copied(p)
	for _, s := range want {
		s.Numbers[254] = 9
	}
	wantReplace(t, p, 255, 9, want)
}

func TestReplaceOfWhatMayNotBe(t *testing.T) {
	for _, p := range wrongs() {
		wantReplace(t, p, 7, 8, nil)
		wantReplace(t, p, 8, 8, nil)
	}
}

// TestReplaceEach holds Replace against each number by itself.
func TestReplaceEach(t *testing.T) {
	eachPath(func(p path.Path) {
		for old := range api.AS(3) {
			want := copied(p)
			for _, s := range want {
				for k := range s.Numbers {
					if s.Numbers[k] == old {
						s.Numbers[k] = 65536
					}
				}
			}
			wantReplace(t, p, old, 65536, want)
		}
	})
}

// changes has all that makes a path of another one.
func changes() []func(path.Path) path.Path {
	prepend := func(kind byte) func(path.Path) path.Path {
		return func(p path.Path) path.Path {
			q, _ := walk.Prepend(p, kind, 9)
			return q
		}
	}
	return []func(path.Path) path.Path{
		walk.Strip,
		prepend(path.Sequence),
		prepend(path.ConfedSequence),
		func(p path.Path) path.Path { return walk.Replace(p, 1, 9) },
		func(p path.Path) path.Path { return walk.Replace(p, 8, 9) },
		func(p path.Path) path.Path { return walk.Replace(p, 1, 1) },
	}
}

// spoil writes wherever p has memory: it changes all, and puts more behind all.
func spoil(p path.Path) {
	for k := range p {
		_ = append(p[k].Numbers, 77, 77)
		clear(p[k].Numbers)
		p[k].Kind = 9
	}
	_ = append(p, seg(9, 9), seg(9, 9))
}

// roomy is p in new memory that has room behind all.
func roomy(p path.Path) path.Path {
	q := slices.Grow(copied(p), 3)
	for k := range q {
		q[k].Numbers = slices.Grow(q[k].Numbers, 3)
	}
	return q
}

// TestChangesAreNewMemory: what is handed in stays as it is, whatever is done
// to the answer, and so does the answer.
func TestChangesAreNewMemory(t *testing.T) {
	eachDrawn(func(given path.Path) {
		for k, change := range changes() {
			p := roomy(given)
			q := change(p)
			told := copied(q)
			spoil(p)
			if !same(q, told) {
				t.Fatalf("change %d of %s: the answer goes with what was handed in", k, shown(given))
			}
			p = roomy(given)
			spoil(change(p))
			if !same(p, given) {
				t.Fatalf("change %d of %s: what was handed in goes with the answer", k, shown(given))
			}
		}
	})
}

// TestChangesShareNoMemory: no two segments of one answer do.
func TestChangesShareNoMemory(t *testing.T) {
	eachDrawn(func(given path.Path) {
		for k, change := range changes() {
			q := change(given)
			told := copied(q)
			for _, s := range q {
				_ = append(s.Numbers, 77, 77)
			}
			if !same(q, told) {
				t.Fatalf("change %d of %s: segments share memory: %s", k, shown(given), shown(q))
			}
		}
	})
}
