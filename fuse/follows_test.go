package fuse_test

import (
	"slices"
	"testing"

	"consulate/api"
	"consulate/fuse"
	"consulate/path"
)

// ahead is p with n put ahead, as a speaker does: into a leading Sequence that
// has room, else as a new one.
func ahead(p path.Path, n api.AS) path.Path {
	p = copied(p)
	if len(p) > 0 && p[0].Kind == 2 && len(p[0].Numbers) < 255 {
		p[0].Numbers = slices.Insert(p[0].Numbers, 0, n)
		return p
	}
	return slices.Insert(p, 0, seg(2, n))
}

// wantWay asks for P9.4: p goes on narrow, numbers are put ahead of it, and at
// the end of the way it is whole.
func wantWay(t *testing.T, p path.Path, numbers []api.AS) {
	t.Helper()
	narrow, beside, has := fuse.Narrow(p)
	want := p
	for _, n := range numbers {
		narrow, want = ahead(narrow, n), ahead(want, n)
	}
	got, wide := fuse.Whole(fuse.Told{Path: narrow, Beside: beside, HasBeside: has})
	if !same(got, want) || wide {
		t.Fatalf("of %s, with %d numbers ahead, came %s, want %s", shown(p), len(numbers), shown(got), shown(want))
	}
	if has {
		wantFuse(t, narrow, beside, want)
	}
	// somebody may put what he gathered on its way, too
	got, wide = fuse.Whole(fuse.Told{Path: narrow, Beside: beside, HasBeside: has, HasBy: true, By: 23456, HasWide: true, Wide: 70000})
	if !same(got, want) || !wide {
		t.Fatalf("of %s, with %d numbers ahead, came %s with a wide aggregator, want %s", shown(p), len(numbers), shown(got), shown(want))
	}
	if t.Failed() {
		t.FailNow()
	}
}

// TestTheWholeWay: P9.4, with Trans among the numbers that are put ahead.
func TestTheWholeWay(t *testing.T) {
	draw := draws(4)
	for range 3000 {
		p := drawn(draw, 6, 5, 1, 2, 2)
		numbers := row(100, draw(6))
		if len(numbers) > 0 && draw(3) == 0 {
			numbers[draw(len(numbers))] = 23456
		}
		wantWay(t, p, numbers)
	}
	for range 30 {
		wantWay(t, drawn(draw, 32, 20, 1, 2), row(100, draw(300)))
		wantWay(t, drawn(draw, 8, 255, 1, 2), row(100, draw(300)))
	}
}

// TestTheWholeWayAtLimits: leading Sequences with about 255 numbers, and so many
// put ahead that new ones begin.
func TestTheWholeWayAtLimits(t *testing.T) {
	for _, count := range []int{0, 1, 2, 128, 253, 254, 255} {
		for _, more := range []int{0, 1, 2, 3, 100, 126, 127, 128, 253, 254, 255, 256, 257, 509, 510, 511, 600} {
			for _, tail := range []path.Path{nil, {seg(2, 80000)}, {seg(1, 80000, 1)}, {seg(1, 1), seg(2, row(79000, 255)...)}} {
				p := tail
				if count > 0 {
					p = append(path.Path{seg(2, row(70000, count)...)}, tail...)
				}
				wantWay(t, p, row(1, more))
			}
		}
	}
}

// TestByManyWays: P9.4 again and again: what came whole goes on, narrow, with
// wide numbers put ahead between.
func TestByManyWays(t *testing.T) {
	draw := draws(5)
	for range 300 {
		p := path.Path(nil)
		want := p
		for way := range api.AS(8) {
			narrow, beside, has := fuse.Narrow(p)
			for _, n := range row(10*way+1, draw(4)) {
				narrow, want = ahead(narrow, n), ahead(want, n)
			}
			p, _ = fuse.Whole(fuse.Told{Path: narrow, Beside: beside, HasBeside: has})
			wide := 70000 + way
			p, want = ahead(p, wide), ahead(want, wide)
		}
		if !same(p, want) {
			t.Fatalf("%s came, want %s", shown(p), shown(want))
		}
	}
}

// TestNarrowAlready: P9.6.
func TestNarrowAlready(t *testing.T) {
	draw := draws(6)
	for range 3000 {
		p := drawn(draw, 8, 6, 0, 1, 2, 3, 4)
		for _, s := range p {
			for k, n := range s.Numbers {
				s.Numbers[k] = n & 0xffff
			}
		}
		wantNarrow(t, p, p, nil, false)
		wantWhole(t, told(0, 0, p, nil), p, false)
		if bare := fuse.Bare(p); same(bare, p) {
			wantFuse(t, p, bare, p)
		}
		narrow, _, _ := fuse.Narrow(drawn(draw, 8, 6, 0, 1, 2, 3, 4))
		wantNarrow(t, narrow, narrow, nil, false)
	}
}
