package walk_test

import (
	"fmt"
	"math"
	"slices"
	"testing"

	"consulate/api"
	"consulate/path"
	"consulate/walk"
)

// The classes are constants without a type: they go wherever a class goes.
var (
	_ byte = walk.Inside
	_ int  = walk.Outside
)

func TestConstants(t *testing.T) {
	got := [3]int{walk.Inside, walk.Confed, walk.Outside}
	if got != [3]int{1, 2, 3} {
		t.Error("classes", got)
	}
}

// seg is a segment of these numbers.
func seg(kind byte, l ...api.AS) path.Segment { return path.Segment{Kind: kind, Numbers: l} }

// row is the numbers from 1 to n.
func row(n int) []api.AS {
	var l []api.AS
	for k := range n {
		l = append(l, api.AS(k+1))
	}
	return l
}

// many is n segments of one number, of all kinds in turn from this one on.
func many(n int, kind int) path.Path {
	var p path.Path
	for k := range n {
		p = append(p, seg(byte((kind-1+k)%4+1), api.AS(k+1)))
	}
	return p
}

// of is the path of a text.
func of(t *testing.T, text string) path.Path {
	t.Helper()
	p, e := path.Parse(text)
	if e != api.OK {
		t.Fatalf("the test's text %q is none: %d", text, e)
	}
	return p
}

// shown is p as a test's failure tells it: long ones only in part.
func shown(p path.Path) string {
	s := fmt.Sprint(p)
	if len(s) > 200 {
		return s[:200] + ".."
	}
	return s
}

// same holds p against q, apart from what package path says.
func same(p, q path.Path) bool {
	if len(p) != len(q) {
		return false
	}
	for k := range p {
		if p[k].Kind != q[k].Kind || !slices.Equal(p[k].Numbers, q[k].Numbers) {
			return false
		}
	}
	return true
}

// copied is p in new memory, apart from what package path does.
func copied(p path.Path) path.Path {
	q := slices.Clone(p)
	for k := range q {
		q[k].Numbers = slices.Clone(q[k].Numbers)
	}
	return q
}

// nobody is a number that stands in no path of the tests.
const nobody = 4000000000

// wrongs has paths that may not be, and each has much of what is asked for: 7
// in confed and in plain segments, at both ends.
func wrongs() []path.Path {
	whole := many(31, 2)
	return []path.Path{
		{{}}, {seg(0, 7)}, {seg(5, 7)}, {seg(255, 7)}, {seg(2)}, {seg(3)}, {seg(1)}, {seg(4)},
		{seg(2, 7), seg(2)}, {seg(2), seg(2, 7)}, {seg(3, 7), seg(2, 7), seg(0, 7)}, {seg(3, 7), seg(5, 7), seg(2, 7)},
		{seg(3, 7), seg(2, 7), {}}, {{}, seg(3, 7), seg(2, 7)}, {seg(4, 7), seg(1, 7), seg(6)},
		{seg(2, append(row(255), 7)...)}, {seg(3, 7), seg(2, append(row(300), 7)...)}, {seg(3, append(row(255), 7)...), seg(2, 7)},
		append(append(path.Path{seg(3, 7)}, whole...), seg(2, 7)), append(append(path.Path{seg(2, 7)}, whole...), seg(2, 7)),
		many(33, 1), many(33, 2), many(33, 3), many(33, 4), many(300, 3),
	}
}

// draws makes numbers below n that only look like chance.
func draws(seed uint32) func(n int) int {
	return func(n int) int {
		seed = seed*1664525 + 1013904223
		return int(seed>>8) % n
	}
}

// edges has the edges of each byte of a number.
var edges = []api.AS{0, 1, 255, 256, 23456, 65535, 65536, 65537, 1 << 24, 1 << 31, math.MaxUint32}

// drawn is a path that may be, of up to so many segments and numbers each. Its
// numbers are often the same.
func drawn(draw func(n int) int, segments, numbers int) path.Path {
	var p path.Path
	for range draw(segments + 1) {
		s := seg(byte(draw(4) + 1))
		for range draw(numbers) + 1 {
			n := api.AS(draw(6))
			if draw(4) == 0 {
				n = edges[draw(len(edges))]
			}
			s.Numbers = append(s.Numbers, n)
		}
		p = append(p, s)
	}
	return p
}

// eachSmall tells f of every path of up to three segments with one or two
// numbers each, all of them 0, 1 or 2.
func eachSmall(f func(path.Path)) {
	var segments []path.Segment
	for kind := byte(1); kind <= 4; kind++ {
		for n := range api.AS(3) {
			segments = append(segments, seg(kind, n))
			for m := range api.AS(3) {
				segments = append(segments, seg(kind, n, m))
			}
		}
	}
	f(nil)
	for _, s := range segments {
		f(path.Path{s})
		for _, r := range segments {
			f(path.Path{s, r})
			for _, q := range segments {
				f(path.Path{s, r, q})
			}
		}
	}
}

// eachDrawn tells f of drawn paths and of those at the limits.
func eachDrawn(f func(path.Path)) {
	draw := draws(8)
	for range 3000 {
		f(drawn(draw, 8, 6))
	}
	for range 300 {
		f(drawn(draw, 32, 12))
	}
	for kind := byte(1); kind <= 4; kind++ {
		for _, n := range []int{31, 32} {
			f(many(n, int(kind)))
			f(slices.Repeat(path.Path{seg(kind, 1, 2)}, n))
		}
		for _, n := range []int{254, 255} {
			f(path.Path{seg(kind, row(n)...)})
			f(slices.Repeat(path.Path{seg(kind, row(n)...)}, 32))
		}
	}
}

// eachPath tells f of all of these.
func eachPath(f func(path.Path)) {
	eachSmall(f)
	eachDrawn(f)
}
