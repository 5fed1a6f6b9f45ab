package path_test

import (
	"math"
	"slices"
	"testing"

	"consulate/api"
	"consulate/path"
)

// The kinds are constants without a type: they go wherever a kind goes.
var (
	_ byte = path.Set
	_ int  = path.ConfedSet
)

func TestConstants(t *testing.T) {
	got := [4]int{path.Set, path.Sequence, path.ConfedSequence, path.ConfedSet}
	if got != [4]int{1, 2, 3, 4} {
		t.Error("kinds", got)
	}
}

// seg is a segment of these numbers.
func seg(kind byte, l ...api.AS) path.Segment { return path.Segment{Kind: kind, Numbers: l} }

// row is the numbers from 1 to n.
func row(n int) []api.AS {
	var l []api.AS
	for k := range n {
		l = append(l, api.AS(k+1))
	}
	return l
}

// many is n segments of one number, of all kinds in turn.
func many(n int) path.Path {
	var p path.Path
	for k := range n {
		p = append(p, seg(byte(k%4+1), api.AS(k+1)))
	}
	return p
}

// same holds p against q, apart from what the package says.
func same(p, q path.Path) bool {
	if len(p) != len(q) {
		return false
	}
	for k := range p {
		if p[k].Kind != q[k].Kind || !slices.Equal(p[k].Numbers, q[k].Numbers) {
			return false
		}
	}
	return true
}

func wantSame(t *testing.T, what string, got, want path.Path) {
	t.Helper()
	if !same(got, want) {
		t.Errorf("%s: %v, want %v", what, got, want)
	}
}

// draws makes numbers below n that only look like chance.
func draws(seed uint32) func(n int) int {
	return func(n int) int {
		seed = seed*1664525 + 1013904223
		return int(seed>>8) % n
	}
}

// edges has the edges of each byte of a number.
var edges = []api.AS{0, 1, 9, 10, 255, 256, 23456, 65534, 65535, 65536, 65537, 1<<24 - 1, 1 << 24, 0x01020304, 1 << 31, math.MaxUint32}

// drawn is a path that may be, of up to so many segments and numbers each.
func drawn(draw func(n int) int, segments, numbers int) path.Path {
	var p path.Path
	for range draw(segments + 1) {
		s := seg(byte(draw(4) + 1))
		for range draw(numbers) + 1 {
			n := api.AS(draw(1 << 16))
			switch draw(4) {
			case 0:
				n = edges[draw(len(edges))]
			case 1:
				n = n<<16 | api.AS(draw(1<<16))
			}
			s.Numbers = append(s.Numbers, n)
		}
		p = append(p, s)
	}
	return p
}

func wantMay(t *testing.T, p path.Path, may bool) {
	t.Helper()
	if got := p.May(); got != may {
		t.Errorf("May of %.200v: %v", p, got)
	}
}

func TestMay(t *testing.T) {
	wantMay(t, nil, true)
	wantMay(t, path.Path{}, true)
	for kind := range 256 {
		there := kind >= 1 && kind <= 4
		for n := range 600 {
			wantMay(t, path.Path{seg(byte(kind), row(n)...)}, there && n >= 1 && n <= 255)
		}
	}
	for n := range 100 {
		wantMay(t, many(n), n <= 32)
	}
}

// TestMayOfEachSegment: one that may not be is enough, wherever it stands.
func TestMayOfEachSegment(t *testing.T) {
	for _, wrong := range []path.Segment{{}, seg(0, 1), seg(5, 1), seg(255, 1), seg(path.Set), seg(path.Sequence, row(256)...)} {
		for n := 1; n <= 32; n++ {
			for at := range n {
				p := many(n)
				p[at] = wrong
				wantMay(t, p, false)
			}
		}
	}
	whole := many(32)
	for k := range whole {
		whole[k].Numbers = row(255)
	}
	wantMay(t, whole, true)
	wantMay(t, path.Path{seg(path.Sequence, edges...)}, true)
	wantMay(t, path.Path{seg(path.Set, 7, 7, 7), seg(path.Set, 7), seg(path.Set, 7)}, true)
}

// others are paths each of which is another one.
var others = []path.Path{
	nil,
	{seg(1, 1)}, {seg(2, 1)}, {seg(3, 1)}, {seg(4, 1)}, {seg(5, 1)}, {seg(0, 1)},
	{seg(2, 2)}, {seg(2, 1+65536)}, {seg(2, 1+256)}, {seg(2, 0)},
	{seg(2, 1, 2)}, {seg(2, 2, 1)}, {seg(2, 1, 1)}, {seg(2, 1, 2, 3)},
	{seg(1, 1, 2)}, {seg(1, 2, 1)}, {seg(4, 1, 2)}, {seg(4, 2, 1)}, {seg(1, 1, 1)},
	{seg(2, 1), seg(2, 2)}, {seg(2, 2), seg(2, 1)}, {seg(1, 1), seg(2, 2)}, {seg(2, 1), seg(1, 2)},
	{seg(2)}, {seg(1)}, {seg(2), seg(2)}, {seg(2, 1), seg(2)}, {seg(2), seg(2, 1)},
}

func TestSame(t *testing.T) {
	for k, p := range others {
		for l, q := range others {
			if got := p.Same(q); got != (k == l) {
				t.Errorf("%v is the same as %v: %v", p, q, got)
			}
			if got := p.Same(q.Copy()); got != (k == l) {
				t.Errorf("%v is the same as a copy of %v: %v", p, q, got)
			}
		}
	}
	for _, p := range []path.Path{nil, {}} {
		if !p.Same(nil) || !p.Same(path.Path{}) {
			t.Error("paths of no segments are not the same")
		}
	}
	p, q := path.Path{{Kind: 2}}, path.Path{{Kind: 2, Numbers: []api.AS{}}}
	if !p.Same(q) || !q.Same(p) {
		t.Error("nil and empty numbers are not the same")
	}
	if p, q := many(40), many(40); !p.Same(q) || p.Same(q[:39]) || p[:39].Same(q) {
		t.Error("of many segments")
	}
}

func TestCount(t *testing.T) {
	for _, c := range []struct {
		p path.Path
		n int
	}{
		{nil, 0},
		{path.Path{}, 0},
		{path.Path{seg(2)}, 0},
		{path.Path{{}, {}}, 0},
		{path.Path{seg(2, 7)}, 1},
		{path.Path{seg(1, 7, 7, 7)}, 3},
		{path.Path{seg(1, 7, 8), seg(3, 1), seg(4, 1, 2, 3)}, 6},
		{path.Path{seg(9, 7, 8), seg(2), seg(0, 0)}, 3},
		{path.Path{seg(2, row(300)...)}, 300},
		{many(40), 40},
	} {
		if got := c.p.Count(); got != c.n {
			t.Errorf("Count of %.200v: %d, want %d", c.p, got, c.n)
		}
	}
}

// told is what All tells yield of.
type told struct {
	kind byte
	n    api.AS
}

// all is what All is to tell of.
func all(p path.Path) []told {
	var l []told
	for _, s := range p {
		for _, n := range s.Numbers {
			l = append(l, told{s.Kind, n})
		}
	}
	return l
}

// wantAll asks p for its first so many numbers.
func wantAll(t *testing.T, p path.Path, stop int, want []told) {
	t.Helper()
	var l []told
	p.All(func(kind byte, n api.AS) bool {
		l = append(l, told{kind, n})
		return len(l) != stop
	})
	if !slices.Equal(l, want) {
		t.Errorf("All of %.200v up to %d: %v, want %v", p, stop, l, want)
	}
}

func TestAll(t *testing.T) {
	wantAll(t, nil, 0, nil)
	wantAll(t, path.Path{{}, seg(2)}, 0, nil)
	wantAll(t, path.Path{seg(2, 10, 20), seg(1, 30), seg(3, 1), seg(4, 20)}, 0, []told{{2, 10}, {2, 20}, {1, 30}, {3, 1}, {4, 20}})
	wantAll(t, path.Path{seg(9, 3), seg(2), seg(0, 1, 1)}, 0, []told{{9, 3}, {0, 1}, {0, 1}})
	draw := draws(7)
	for range 500 {
		p := drawn(draw, 40, 20)
		want := all(p)
		wantAll(t, p, 0, want)
		for stop := 1; stop <= len(want); stop++ {
			wantAll(t, p, stop, want[:stop])
		}
		if got := p.Count(); got != len(want) {
			t.Errorf("Count of %v: %d, All tells of %d", p, got, len(want))
		}
	}
}

// TestAllIsRangedOver: by what may leave the loop as it likes.
func TestAllIsRangedOver(t *testing.T) {
	p := path.Path{seg(2, 1, 2, 3), seg(1, 4, 5), seg(3, 6)}
	sum := api.AS(0)
	for kind, n := range p.All {
		if n == 2 {
			continue
		}
		sum += n * api.AS(kind)
		if n == 5 {
			break
		}
	}
	if sum != 2+6+4+5 {
		t.Error(sum)
	}
}

func TestAllOfNoYield(t *testing.T) {
	path.Path{seg(2, 1)}.All(nil)
	path.Path(nil).All(nil)
}

func TestCopy(t *testing.T) {
	for _, p := range append(others, many(40), path.Path{seg(7, row(400)...), {}}) {
		q := p.Copy()
		wantSame(t, "copy", q, p)
		for k := range q {
			q[k].Kind++
			clear(q[k].Numbers)
			_ = append(q[k].Numbers, 99)
		}
		_ = append(q, seg(1, 1))
		wantSame(t, "what was copied", p.Copy(), p)
	}
}

// TestCopyIsNewMemory: neither is changed by the other, and no segment of one
// by another one.
func TestCopyIsNewMemory(t *testing.T) {
	numbers := []api.AS{1, 2, 3, 4}
	p := path.Path{seg(2, numbers[:2]...), seg(1, numbers[:4]...)}
	q := p.Copy()
	q[0].Numbers[0] = 9
	_ = append(q[0].Numbers, 9, 9)
	_ = append(q[1].Numbers, 9, 9)
	wantSame(t, "copy", q, path.Path{seg(2, 9, 2), seg(1, 1, 2, 3, 4)})
	wantSame(t, "what was copied", p, path.Path{seg(2, 1, 2), seg(1, 1, 2, 3, 4)})
	clear(numbers)
	p[1].Kind = 4
	wantSame(t, "copy", q, path.Path{seg(2, 9, 2), seg(1, 1, 2, 3, 4)})
}

func TestOf(t *testing.T) {
	for kind := range 256 {
		k := byte(kind)
		wantSame(t, "Of nothing", path.Of(k), nil)
		wantSame(t, "Of nothing", path.Of(k, []api.AS{}...), nil)
		wantSame(t, "Of one", path.Of(k, 0), path.Path{seg(k, 0)})
		wantSame(t, "Of all", path.Of(k, edges...), path.Path{seg(k, edges...)})
		wantSame(t, "Of too many", path.Of(k, row(256)...), path.Path{seg(k, row(256)...)})
	}
	wantMay(t, path.Of(0), true)
	wantMay(t, path.Of(0, 1), false)
	wantMay(t, path.Of(path.Set, 1), true)
	wantMay(t, path.Of(path.Set, row(256)...), false)
}

func TestOfIsNewMemory(t *testing.T) {
	l := row(3)
	p := path.Of(2, l[:2]...)
	_ = append(p[0].Numbers, 9)
	p[0].Numbers[0] = 8
	if !slices.Equal(l, row(3)) {
		t.Error("what was handed in is changed:", l)
	}
	clear(l)
	wantSame(t, "Of", p, path.Path{seg(2, 8, 2)})
}
