package fuse_test

import (
	"slices"
	"testing"

	"consulate/api"
	"consulate/fuse"
	"consulate/path"
)

func wantFuse(t *testing.T, p, beside, want path.Path) {
	t.Helper()
	wasP, wasB := copied(p), copied(beside)
	if got := fuse.Fuse(p, beside); !same(got, want) {
		t.Errorf("Fuse(%s, %s): %s, want %s", shown(p), shown(beside), shown(got), shown(want))
	}
	if !same(p, wasP) || !same(beside, wasB) {
		t.Errorf("Fuse changed %s, %s to %s, %s", shown(wasP), shown(wasB), shown(p), shown(beside))
	}
}

func TestFuse(t *testing.T) {
	for _, c := range []struct{ p, beside, want string }{
		// nothing is there
		{"-", "-", "-"},
		{"-", "70000", "-"},
		{"10", "-", "10"},
		{"(1) 10 {2}", "-", "(1) 10 {2}"},
		// what goes beside weighs more
		{"23456", "10 70000", "23456"},
		{"(7) 23456", "10 70000", "(7) 23456"},
		{"{1,2,3}", "10 70000", "{1,2,3}"},
		{"5", "{1} {2}", "5"},
		{"(1 2 3) 5", "10 70000", "(1 2 3) 5"},
		// it weighs as much
		{"10 23456", "10 70000", "10 70000"},
		{"10 23456", "20 80000", "20 80000"},
		{"(7) 23456", "70000", "(7) 70000"},
		{"(7) [8] 23456", "70000", "(7) [8] 70000"},
		{"23456 (7)", "70000", "70000"},
		{"(7) 23456 (8)", "70000", "(7) 70000"},
		{"{23456}", "70000", "70000"},
		{"23456", "{1,70000}", "{1,70000}"},
		{"(7)", "(8)", "(7)"},
		{"(7)", "-", "(7)"},
		// the lead goes ahead
		{"5 10 23456", "10 70000", "5 10 70000"},
		{"5 6 23456", "70000", "5 6 70000"},
		{"(7) 5 23456", "70000", "(7) 5 70000"},
		{"5 (7) 23456", "70000", "5 (7) 70000"},
		{"5 6 (7) 23456", "70000", "5 6 (7) 70000"},
		{"5 6 (7) [8] {9} (1) 23456", "{9} 70000", "5 6 (7) [8] {9} 70000"},
		{"5 | 6 23456", "70000", "5 | 6 70000"},
		{"5 | 23456", "70000", "5 70000"},
		{"5 | 6 | 23456", "70000", "5 | 6 70000"},
		// a Sequence that is not taken whole ends it, whatever stands behind
		{"5 23456 (7) 6", "1 70000", "5 1 70000"},
		{"5 23456 (7)", "70000", "5 70000"},
		{"(1) 5 6 7 [8] {9}", "70000 80000 90000", "(1) 5 70000 80000 90000"},
		// Sets make up for 1
		{"{5,6} 23456", "70000", "{5,6} 70000"},
		{"5 {1,2} 23456", "{1,2} 70000", "5 {1,2} 70000"},
		{"5 {1,2} 23456", "70000", "5 {1,2} 70000"},
		{"{5,6} {7,8} 23456", "{7,8} 70000", "{5,6} {7,8} 70000"},
		{"5 {1} (7) {2} 23456", "{2} 70000", "5 {1} (7) {2} 70000"},
		{"5 23456", "{10,70000}", "5 {10,70000}"},
		// what goes beside is bare
		{"5 23456", "(9) 70000", "5 70000"},
		{"5 23456", "(9 9 9) 70000", "5 70000"},
		{"5 23456", "70000 (9)", "5 70000"},
		{"5 6 23456", "6 [9] 70000", "5 6 | 70000"},
		{"5 23456", "(9)", "5 23456"},
		{"(7) 23456", "(9) [8] 70000", "(7) 70000"},
		// it is as it is, whatever the path's numbers are
		{"5 10 20", "30 70000", "5 30 70000"},
		{"5 10 23456", "10 20", "5 10 20"},
	} {
		wantFuse(t, of(t, c.p), of(t, c.beside), of(t, c.want))
	}
}

// TestFuseOfWhatMayNotBe: kinds that are none count nothing, and are taken
// whole as long as something is wanting.
func TestFuseOfWhatMayNotBe(t *testing.T) {
	wide := path.Path{seg(2, 70000)}
	for _, kind := range []byte{0, 5, 6, 255} {
		none := seg(kind, 8, 9)
		wantFuse(t, path.Path{none, seg(2, 5, 23456)}, wide, path.Path{none, seg(2, 5, 70000)})
		wantFuse(t, path.Path{seg(2, 5), none, seg(2, 23456)}, wide, path.Path{seg(2, 5, 70000)})
		wantFuse(t, path.Path{seg(2, 5), none, seg(2, 6), seg(2, 23456)}, wide, path.Path{seg(2, 5), none, seg(2, 6, 70000)})
		wantFuse(t, path.Path{none, seg(3, 1), seg(2, 23456)}, wide, wide)
		wantFuse(t, path.Path{none}, nil, nil)
		wantFuse(t, path.Path{none}, wide, path.Path{none})
		wantFuse(t, path.Path{seg(2, 5, 23456)}, path.Path{none, wide[0]}, path.Path{seg(2, 5), none, wide[0]})
	}
	empty := seg(2)
	wantFuse(t, path.Path{empty, seg(2, 5, 23456)}, wide, path.Path{empty, seg(2, 5, 70000)})
	wantFuse(t, path.Path{seg(2, 5), empty, seg(2, 23456)}, wide, path.Path{seg(2, 5, 70000)})
	wantFuse(t, path.Path{seg(1), seg(2, 23456)}, wide, path.Path{seg(1), wide[0]})
	wantFuse(t, path.Path{seg(1), seg(2, 23456)}, path.Path{seg(1), wide[0]}, path.Path{seg(1), wide[0]})
	wantFuse(t, path.Path{seg(3), seg(2, 23456)}, wide, path.Path{seg(3), wide[0]})
	wantFuse(t, path.Path{seg(2, 5)}, path.Path{empty}, path.Path{seg(2, 5)})
	wantFuse(t, path.Path{seg(2, 5)}, path.Path{seg(1), seg(1)}, path.Path{seg(2, 5)})
}

// TestJoined goes around 255 numbers in what goes beside, with one lead of one
// Sequence, and with another one ahead of it.
func TestJoined(t *testing.T) {
	for _, count := range []int{1, 2, 3, 127, 250, 252, 253, 254, 255, 256, 300} {
		beside := path.Path{seg(2, row(70000, count)...), seg(1, 1, 2)}
		for ahead := 1; ahead <= 256; ahead++ {
			l := row(1000, ahead)
			left := min(ahead, max(ahead+count-255, 0))
			want := path.Path{seg(2, slices.Concat(l[left:], beside[0].Numbers)...), beside[1]}
			if left > 0 {
				want = slices.Insert(want, 0, seg(2, l[:left]...))
			}
			// a Sequence that is taken in part, and one that is taken whole
			tail := row(30000, count+1)
			wantFuse(t, path.Path{seg(2, slices.Concat(l, tail)...)}, beside, want)
			wantFuse(t, path.Path{seg(2, l...), seg(2, tail...)}, beside, want)
			more := path.Path{seg(2, 1), seg(2, 2, 3)}
			wantFuse(t, append(copied(more), seg(2, slices.Concat(l, tail)...)), beside, append(more, want...))
		}
	}
}

// TestNotJoined: only a Sequence at the lead's end and one at the beginning of
// what goes beside meet.
func TestNotJoined(t *testing.T) {
	for last := byte(1); last <= 4; last++ {
		for _, first := range []byte{0, 1, 2, 5} {
			beside := path.Path{seg(first, 70000), seg(1, 80000)}
			p := path.Path{seg(2, 5), seg(last, 6), seg(1, 23456), seg(1, 23456)}
			if first != 2 {
				p = p[:3]
			}
			want := slices.Concat(path.Path{seg(2, 5), seg(last, 6)}, beside)
			if last == 2 && first == 2 {
				want = path.Path{seg(2, 5), seg(2, 6, 70000), seg(1, 80000)}
			}
			if first == 1 {
				p = append(p, seg(1, 23456))
			}
			wantFuse(t, p, beside, want)
		}
	}
}

// TestFuseOfManySegments: fused may have more segments than a path may have.
func TestFuseOfManySegments(t *testing.T) {
	for count := 1; count <= 40; count++ {
		confed := slices.Repeat(path.Path{seg(3, 1), seg(4, 2)}, count)
		sets := slices.Repeat(path.Path{seg(1, 70000, 3)}, count)
		wantFuse(t, append(copied(confed), seg(2, row(1, count)...)), sets, slices.Concat(confed, sets))
		wantFuse(t, slices.Concat(sets, sets), sets, slices.Concat(sets, sets))
		wantFuse(t, slices.Concat(sets, confed, sets), sets, slices.Concat(sets, confed, sets))
		wantFuse(t, slices.Concat(sets, confed, sets), sets[1:], slices.Concat(sets, confed, sets))
	}
}

// model is what is fused by the chapter's words: the lead by how much weighs
// what stands ahead of each segment, joined number by number.
func model(p, beside path.Path) path.Path {
	bare := without(beside)
	wanting := weigh(p) - weigh(bare)
	if wanting < 0 {
		return p
	}
	var lead path.Path
	for k, s := range copied(p) {
		open := wanting - weigh(p[:k])
		if s.Kind != 3 && s.Kind != 4 && open <= 0 {
			break
		}
		cut := s.Kind == 2 && len(s.Numbers) > open
		if cut {
			s.Numbers = s.Numbers[:open]
		}
		lead = append(lead, s)
		if cut {
			break
		}
	}
	if len(lead) == 0 || len(bare) == 0 || lead[len(lead)-1].Kind != 2 || bare[0].Kind != 2 {
		return slices.Concat(lead, bare)
	}
	last, other := lead[len(lead)-1].Numbers, bare[0].Numbers
	for len(last) > 0 && len(other) < 255 {
		other = append([]api.AS{last[len(last)-1]}, other...)
		last = last[:len(last)-1]
	}
	lead = lead[:len(lead)-1]
	if len(last) > 0 {
		lead = append(lead, seg(2, last...))
	}
	return slices.Concat(lead, path.Path{seg(2, other...)}, bare[1:])
}

// without is p without its confed segments.
func without(p path.Path) path.Path {
	var q path.Path
	for _, s := range p {
		if s.Kind != 3 && s.Kind != 4 {
			q = append(q, s)
		}
	}
	return copied(q)
}

// weigh is p's weight.
func weigh(p path.Path) int {
	n := 0
	for _, s := range p {
		if s.Kind == 2 {
			n += len(s.Numbers)
		}
		if s.Kind == 1 {
			n++
		}
	}
	return n
}

// small has the paths of up to so many segments of these kinds, each with none
// to two numbers, all of them different.
func small(segments int, first api.AS, kinds ...byte) []path.Path {
	all := []path.Path{nil}
	for from := 0; segments > 0; segments-- {
		to := len(all)
		for _, p := range all[from:to] {
			for _, kind := range kinds {
				for n := range 3 {
					next := first + api.AS(2*len(p))
					all = append(all, append(slices.Clone(p), seg(kind, row(next, n)...)))
				}
			}
		}
		from = to
	}
	return all
}

// wantAsModel holds Fuse against the model and asks for P9.5.
func wantAsModel(t *testing.T, p, beside path.Path) {
	t.Helper()
	want := model(p, beside)
	wantFuse(t, p, beside, want)
	got := fuse.Fuse(p, beside)
	if fuse.Weight(got) != weigh(p) {
		t.Errorf("Fuse(%s, %s) weighs %d, not %d", shown(p), shown(beside), fuse.Weight(got), weigh(p))
	}
	if len(got)-len(without(got)) > len(p)-len(without(p)) {
		t.Errorf("Fuse(%s, %s) has more confed segments", shown(p), shown(beside))
	}
	if t.Failed() {
		t.FailNow()
	}
}

// TestEverySmallPair holds all small pairs against the model; P9.5 too.
func TestEverySmallPair(t *testing.T) {
	besides := small(2, 70000, 0, 1, 2, 3)
	for _, p := range small(3, 1, 1, 2, 3, 5) {
		for _, beside := range besides {
			wantAsModel(t, p, beside)
		}
	}
}

// TestDrawnPairs: the same of longer ones, at the limits too.
func TestDrawnPairs(t *testing.T) {
	draw := draws(3)
	fused, met := 0, 0
	for range 20000 {
		p := drawn(draw, 8, 6, 1, 2, 2, 3, 4)
		beside := drawn(draw, 5, 4, 1, 2, 2, 3)
		wantAsModel(t, p, beside)
		if weigh(p) >= weigh(beside) {
			fused++
		}
		if bare := without(beside); weigh(p) > weigh(bare) && p[0].Kind == 2 && len(bare) > 0 && bare[0].Kind == 2 {
			met++
		}
	}
	for range 1000 {
		wantAsModel(t, drawn(draw, 8, 300, 1, 2, 2, 2, 3, 4), drawn(draw, 5, 300, 1, 2, 2, 2, 3))
		wantAsModel(t, drawn(draw, 33, 12, 1, 2, 3, 4), drawn(draw, 33, 8, 1, 2, 3, 4))
	}
	if fused < 5000 || met < 1000 {
		t.Error("too few of them:", fused, met)
	}
}
