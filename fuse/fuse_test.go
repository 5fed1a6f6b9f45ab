package fuse_test

import (
	"fmt"
	"math"
	"slices"
	"testing"

	"consulate/api"
	"consulate/fuse"
	"consulate/path"
)

// seg is a segment of these numbers.
func seg(kind byte, l ...api.AS) path.Segment { return path.Segment{Kind: kind, Numbers: l} }

// row is n numbers from first on.
func row(first api.AS, n int) []api.AS {
	var l []api.AS
	for k := range n {
		l = append(l, first+api.AS(k))
	}
	return l
}

// of is the path of a text.
func of(t *testing.T, text string) path.Path {
	t.Helper()
	p, e := path.Parse(text)
	if e != api.OK {
		t.Fatalf("the test's text %q is none: %d", text, e)
	}
	return p
}

// shown is p as a test's failure tells it: long ones only in part.
func shown(p path.Path) string {
	s := fmt.Sprint(p)
	if len(s) > 300 {
		return fmt.Sprint(s[:300], ".. of ", len(p))
	}
	return s
}

// same holds p against q, apart from what package path says.
func same(p, q path.Path) bool {
	if len(p) != len(q) {
		return false
	}
	for k := range p {
		if p[k].Kind != q[k].Kind || !slices.Equal(p[k].Numbers, q[k].Numbers) {
			return false
		}
	}
	return true
}

// copied is p in new memory, apart from what package path does.
func copied(p path.Path) path.Path {
	q := slices.Clone(p)
	for k := range q {
		q[k].Numbers = slices.Clone(q[k].Numbers)
	}
	return q
}

// draws makes numbers below n that only look like chance.
func draws(seed uint32) func(n int) int {
	return func(n int) int {
		seed = seed*1664525 + 1013904223
		return int(seed>>8) % n
	}
}

// edges has the edges of two bytes, and of Trans.
var edges = []api.AS{0, 1, 255, 256, 23455, 23456, 23457, 65534, 65535, 65536, 65537, 65536 + 23456, 1 << 24, 1 << 31, math.MaxUint32}

// drawn is a path of up to so many segments and numbers each, of these kinds.
func drawn(draw func(n int) int, segments, numbers int, kinds ...byte) path.Path {
	var p path.Path
	for range draw(segments + 1) {
		s := seg(kinds[draw(len(kinds))])
		for range draw(numbers) + 1 {
			n := api.AS(draw(60000) + 1)
			if draw(4) == 0 {
				n = edges[draw(len(edges))]
			}
			s.Numbers = append(s.Numbers, n)
		}
		p = append(p, s)
	}
	return p
}

// wantNew scribbles over what was answered and holds everything else against
// what it was: no list may be in two of them, nor twice in one.
func wantNew(t *testing.T, given []path.Path, answered ...path.Path) {
	t.Helper()
	all := append(slices.Clone(given), answered...)
	for k, p := range answered {
		for j := range p {
			was := make([]path.Path, len(all))
			for i := range all {
				was[i] = copied(all[i])
			}
			list := p[j].Numbers[:cap(p[j].Numbers)]
			kept := slices.Clone(list)
			for i := range list {
				list[i] ^= 0x5a5a5a5a
			}
			copy(was[len(given)+k][j].Numbers, list)
			for i := range all {
				if !same(all[i], was[i]) {
					t.Fatalf("list %d of answer %d shares memory with path %d", j, k, i)
				}
			}
			copy(list, kept)
		}
		whole := p[:cap(p)]
		kept := slices.Clone(whole)
		for i, q := range given {
			was := copied(q)
			clear(whole)
			if !same(q, was) {
				t.Fatalf("answer %d shares its segments with path %d", k, i)
			}
			copy(whole, kept)
		}
	}
}

func wantNarrow(t *testing.T, p, narrow, beside path.Path, has bool) {
	t.Helper()
	was := copied(p)
	gotN, gotB, gotHas := fuse.Narrow(p)
	if !same(gotN, narrow) || !same(gotB, beside) || gotHas != has {
		t.Errorf("Narrow(%s): %s, %s, %v, want %s, %s, %v", shown(p), shown(gotN), shown(gotB), gotHas, shown(narrow), shown(beside), has)
	}
	if !same(p, was) {
		t.Errorf("Narrow changed %s to %s", shown(was), shown(p))
	}
}

func wantBare(t *testing.T, p, want path.Path) {
	t.Helper()
	was := copied(p)
	if got := fuse.Bare(p); !same(got, want) {
		t.Errorf("Bare(%s): %s, want %s", shown(p), shown(got), shown(want))
	}
	if !same(p, was) {
		t.Errorf("Bare changed %s to %s", shown(was), shown(p))
	}
}

func wantWeight(t *testing.T, p path.Path, want int) {
	t.Helper()
	if got := fuse.Weight(p); got != want {
		t.Errorf("Weight(%s): %d, want %d", shown(p), got, want)
	}
}

func TestNarrow(t *testing.T) {
	for _, c := range []struct {
		p, narrow, beside string
		has               bool
	}{
		{"-", "-", "-", false},
		{"10 20", "10 20", "-", false},
		{"23456", "23456", "-", false},
		{"65535", "65535", "-", false},
		{"65536", "23456", "65536", true},
		{"4294967295", "23456", "4294967295", true},
		{"10 70000 20", "10 23456 20", "10 70000 20", true},
		{"70000 80000", "23456 23456", "70000 80000", true},
		{"{10,70000}", "{10,23456}", "{10,70000}", true},
		{"10 {70000} 20", "10 {23456} 20", "10 {70000} 20", true},
		{"(65001) 10", "(65001) 10", "-", false},
		{"(65001) 70000", "(65001) 23456", "70000", true},
		{"(70000) 10", "(23456) 10", "-", false},
		{"[70000] 10", "[23456] 10", "-", false},
		{"(70000)", "(23456)", "-", false},
		{"(70000) 80000", "(23456) 23456", "80000", true},
		{"[70000,10] {80000}", "[23456,10] {23456}", "{80000}", true},
		{"10 (70000) 20", "10 (23456) 20", "-", false},
		{"10 (1) 70000", "10 (1) 23456", "10 | 70000", true},
		{"10 | 70000", "10 | 23456", "10 | 70000", true},
		{"1 {2} [3] (4) 65536", "1 {2} [3] (4) 23456", "1 {2} 65536", true},
	} {
		wantNarrow(t, of(t, c.p), of(t, c.narrow), of(t, c.beside), c.has)
	}
}

// TestNarrowNumbers puts each edge wherever a number may stand.
func TestNarrowNumbers(t *testing.T) {
	for _, n := range edges {
		m, wide := n, n > 65535
		if wide {
			m = 23456
		}
		for kind := byte(0); kind <= 6; kind++ {
			confed := kind == 3 || kind == 4
			p := path.Path{seg(1, 1), seg(3, 2), seg(kind, 3, n, 4), seg(2, 5)}
			narrow := path.Path{seg(1, 1), seg(3, 2), seg(kind, 3, m, 4), seg(2, 5)}
			var beside path.Path
			if wide && !confed {
				beside = path.Path{p[0], p[2], p[3]}
			}
			wantNarrow(t, p, narrow, beside, wide && !confed)
		}
	}
	for count := 1; count <= 300; count++ {
		for _, at := range []int{0, count / 2, count - 1} {
			l := row(1, count)
			l[at] = 65536
			m := slices.Clone(l)
			m[at] = 23456
			wantNarrow(t, path.Path{seg(2, l...)}, path.Path{seg(2, m...)}, path.Path{seg(2, l...)}, true)
			wantNarrow(t, path.Path{seg(3, l...)}, path.Path{seg(3, m...)}, nil, false)
		}
	}
}

func TestBare(t *testing.T) {
	for _, c := range [][2]string{
		{"-", "-"},
		{"10 20", "10 20"},
		{"70000 {1,80000}", "70000 {1,80000}"},
		{"(1)", "-"},
		{"[1]", "-"},
		{"(1 2) [3,4] (5)", "-"},
		{"(1 2) 10 {20,30}", "10 {20,30}"},
		{"10 (1) 20", "10 | 20"},
		{"10 [1] 20 (2)", "10 | 20"},
		{"{10} (1) {20}", "{10} {20}"},
		{"10 | 20", "10 | 20"},
		{"(1) 10 (2) {20} [3] 30 40 (4)", "10 {20} 30 40"},
	} {
		wantBare(t, of(t, c[0]), of(t, c[1]))
	}
	for kind := range 256 {
		p := path.Path{seg(byte(kind), 1, 70000), seg(2, 3), seg(byte(kind))}
		if kind == 3 || kind == 4 {
			wantBare(t, p, p[1:2])
		} else {
			wantBare(t, p, p)
		}
	}
}

func TestWeight(t *testing.T) {
	for _, c := range []struct {
		p      string
		weight int
	}{
		{"-", 0},
		{"10", 1},
		{"10 20 30", 3},
		{"10 | 20 30", 3},
		{"{10}", 1},
		{"{10,20,30}", 1},
		{"{10} {20,30}", 2},
		{"(1 2 3)", 0},
		{"[1,2,3]", 0},
		{"(1 2) 10 20 {30,40} [5] 50", 4},
	} {
		wantWeight(t, of(t, c.p), c.weight)
	}
	for kind := range 256 {
		each := 0
		for count := range 4 {
			switch kind {
			case 1:
				each = 1
			case 2:
				each = count
			}
			s := seg(byte(kind), row(1, count)...)
			wantWeight(t, path.Path{s}, each)
			wantWeight(t, path.Path{s, seg(2, 1, 2), s}, 2*each+2)
		}
	}
	for count := range 600 {
		wantWeight(t, path.Path{seg(2, row(1, count)...)}, count)
		wantWeight(t, slices.Repeat(path.Path{seg(2, 1, 2)}, count), 2*count)
		wantWeight(t, slices.Repeat(path.Path{seg(1, 1, 2)}, count), count)
	}
}

// TestOfWhatMayNotBe: by the chapter's words the same is told of it.
func TestOfWhatMayNotBe(t *testing.T) {
	for _, c := range []struct {
		p, narrow, beside path.Path
		has               bool
		weight            int
	}{
		{path.Path{{}}, path.Path{{}}, nil, false, 0},
		{path.Path{seg(2)}, path.Path{seg(2)}, nil, false, 0},
		{path.Path{seg(1)}, path.Path{seg(1)}, nil, false, 1},
		{path.Path{seg(3), seg(4)}, path.Path{seg(3), seg(4)}, nil, false, 0},
		{path.Path{seg(0, 70000)}, path.Path{seg(0, 23456)}, path.Path{seg(0, 70000)}, true, 0},
		{path.Path{seg(5, 70000), seg(4, 1), {}}, path.Path{seg(5, 23456), seg(4, 1), {}}, path.Path{seg(5, 70000), {}}, true, 0},
		{path.Path{seg(255, 1, 2), seg(2, 3)}, path.Path{seg(255, 1, 2), seg(2, 3)}, nil, false, 1},
		{
			slices.Repeat(path.Path{seg(2, 70000), seg(3, 1)}, 200),
			slices.Repeat(path.Path{seg(2, 23456), seg(3, 1)}, 200),
			slices.Repeat(path.Path{seg(2, 70000)}, 200), true, 200,
		},
	} {
		wantNarrow(t, c.p, c.narrow, c.beside, c.has)
		wantWeight(t, c.p, c.weight)
		if c.has {
			wantBare(t, c.p, c.beside)
		}
	}
}

func TestNewMemory(t *testing.T) {
	draw := draws(1)
	for range 300 {
		p := drawn(draw, 6, 4, 0, 1, 2, 3, 4)
		narrow, beside, _ := fuse.Narrow(p)
		wantNew(t, []path.Path{p}, narrow, beside, fuse.Bare(p))
		q := drawn(draw, 6, 4, 1, 2, 3)
		wantNew(t, []path.Path{p, q}, fuse.Fuse(p, q), fuse.Fuse(q, p))
		for k := range 16 {
			s := told(k, 23456, p, q)
			whole, _ := fuse.Whole(s)
			wantNew(t, []path.Path{p, q}, whole)
			s.By = 1
			whole, _ = fuse.Whole(s)
			wantNew(t, []path.Path{p, q}, whole)
		}
	}
	for ahead := range 300 {
		for _, count := range []int{1, 2, 5, 20, 200} {
			p, q := path.Path{seg(2, row(1, ahead+count)...)}, path.Path{seg(2, row(70000, count)...)}
			wantNew(t, []path.Path{p, q}, fuse.Fuse(p, q))
		}
	}
}

// told is what was told with the three things that may be there or not, by the
// bits of k.
func told(k int, by api.AS, p, beside path.Path) fuse.Told {
	return fuse.Told{Path: p, Beside: beside, HasBeside: k&1 != 0, HasBy: k&2 != 0, HasWide: k&4 != 0, By: by, Wide: 70000}
}

func wantWhole(t *testing.T, s fuse.Told, p path.Path, wide bool) {
	t.Helper()
	gotP, gotWide := fuse.Whole(s)
	if !same(gotP, p) || gotWide != wide {
		t.Errorf("Whole(%v %v %v, by %d, wide %d) of %s, %s: %s, %v, want %s, %v", s.HasBeside, s.HasBy, s.HasWide, s.By, s.Wide,
			shown(s.Path), shown(s.Beside), shown(gotP), gotWide, shown(p), wide)
	}
}

// TestWhole: P9.3, with all that may be there or not.
func TestWhole(t *testing.T) {
	p, beside, fused := of(t, "(7) 5 23456"), of(t, "70000"), of(t, "(7) 5 70000")
	for _, c := range []struct {
		beside, by, wide bool
		trans, other     bool // whether the path is fused, if By is Trans, or is not
		take             bool // whether what is beside Trans is to be taken
	}{
		{false, false, false, false, false, false},
		{false, false, true, false, false, false},
		{false, true, false, false, false, false},
		{false, true, true, false, false, true},
		{true, false, false, true, true, false},
		{true, false, true, true, true, false},
		{true, true, false, true, true, false},
		{true, true, true, true, false, true},
	} {
		for _, by := range edges {
			for _, wide := range edges {
				s := fuse.Told{Path: p, Beside: beside, HasBeside: c.beside, HasBy: c.by, HasWide: c.wide, By: by, Wide: wide}
				if by == 23456 && c.trans || by != 23456 && c.other {
					wantWhole(t, s, fused, by == 23456 && c.take)
				} else {
					wantWhole(t, s, p, by == 23456 && c.take)
				}
			}
		}
	}
}

// TestWholeAsFuse: whatever both paths are, it is one of the two.
func TestWholeAsFuse(t *testing.T) {
	draw := draws(2)
	for range 2000 {
		p, q := drawn(draw, 5, 3, 0, 1, 2, 3, 4), drawn(draw, 5, 3, 1, 2, 2, 4)
		wantWhole(t, told(7, 23456, p, q), model(p, q), true)
		wantWhole(t, told(7, 1, p, q), p, false)
		wantWhole(t, told(1, 1, p, q), model(p, q), false)
		wantWhole(t, told(6, 23456, p, q), p, true)
		wantWhole(t, told(0, 0, p, q), p, false)
	}
	wantWhole(t, fuse.Told{}, nil, false)
	wantWhole(t, fuse.Told{HasBeside: true}, nil, false)
	wantWhole(t, fuse.Told{HasBeside: true, Beside: of(t, "(1) 70000")}, nil, false)
}
