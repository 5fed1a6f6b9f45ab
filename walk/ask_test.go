package walk_test

import (
	"math"
	"testing"

	"consulate/api"
	"consulate/path"
	"consulate/walk"
)

// asked is what is asked of a path alone.
type asked struct {
	ordered   bool
	kind      byte
	first     api.AS
	is        bool
	neighbour api.AS
	origin    api.AS
	length    int
}

// answers is what the package answers of p.
func answers(p path.Path) asked {
	a := asked{ordered: walk.Ordered(p), neighbour: walk.Neighbour(p), origin: walk.Origin(p), length: walk.Length(p)}
	a.kind, a.first, a.is = walk.First(p)
	return a
}

func wantAsked(t *testing.T, p path.Path, want asked) {
	t.Helper()
	if got := answers(p); got != want {
		t.Errorf("of %s: %+v, want %+v", shown(p), got, want)
	}
}

func TestAsked(t *testing.T) {
	const set, sequence, confedSequence, confedSet = 1, 2, 3, 4
	for _, c := range []struct {
		p    string
		want asked
	}{
		{"-", asked{ordered: true}},
		{"10", asked{true, sequence, 10, true, 10, 10, 1}},
		{"0", asked{true, sequence, 0, true, 0, 0, 1}},
		{"10 20 30", asked{true, sequence, 10, true, 10, 30, 3}},
		{"10 10 10", asked{true, sequence, 10, true, 10, 10, 3}},
		{"{10}", asked{true, set, 10, true, 0, 0, 1}},
		{"{10,20,30}", asked{true, set, 10, true, 0, 0, 1}},
		{"(10)", asked{true, confedSequence, 10, true, 0, 0, 0}},
		{"(10 20)", asked{true, confedSequence, 10, true, 0, 0, 0}},
		{"[10,20]", asked{true, confedSet, 10, true, 0, 0, 0}},
		{"(65001 65002) 10 {20,30}", asked{true, confedSequence, 65001, true, 10, 0, 2}},
		{"10 {20,30}", asked{true, sequence, 10, true, 10, 0, 2}},
		{"{5} 6", asked{true, set, 5, true, 0, 6, 2}},
		{"{5,6} 7 8", asked{true, set, 5, true, 0, 8, 3}},
		{"{5} {6}", asked{true, set, 5, true, 0, 0, 2}},
		{"10 20 | 30 40", asked{true, sequence, 10, true, 10, 40, 4}},
		{"10 (20)", asked{false, sequence, 10, true, 10, 0, 1}},
		{"10 [20]", asked{false, sequence, 10, true, 10, 0, 1}},
		{"{10} (20)", asked{false, set, 10, true, 0, 0, 1}},
		{"{10} [20]", asked{false, set, 10, true, 0, 0, 1}},
		{"10 (20) 30", asked{false, sequence, 10, true, 10, 30, 2}},
		{"(1) 10 [20] 30", asked{false, confedSequence, 1, true, 10, 30, 2}},
		{"(1) [2,3] (4) 10 20", asked{true, confedSequence, 1, true, 10, 20, 2}},
		{"[2,3] (4) {10,20} 30 40", asked{true, confedSet, 2, true, 0, 40, 3}},
		{"(1) {2} 3 (4)", asked{false, confedSequence, 1, true, 0, 0, 2}},
		{"70000 4294967295", asked{true, sequence, 70000, true, 70000, 4294967295, 2}},
	} {
		wantAsked(t, of(t, c.p), c.want)
	}
}

func TestAskedAtLimits(t *testing.T) {
	for n := 1; n <= 255; n++ {
		l, last := row(n), api.AS(n)
		wantAsked(t, path.Path{seg(1, l...)}, asked{true, 1, 1, true, 0, 0, 1})
		wantAsked(t, path.Path{seg(2, l...)}, asked{true, 2, 1, true, 1, last, n})
		wantAsked(t, path.Path{seg(3, l...)}, asked{true, 3, 1, true, 0, 0, 0})
		wantAsked(t, path.Path{seg(4, l...)}, asked{true, 4, 1, true, 0, 0, 0})
	}
	whole := make(path.Path, 32)
	for kind, want := range map[byte]asked{
		1: {true, 1, 1, true, 0, 0, 32},
		2: {true, 2, 1, true, 1, 255, 32 * 255},
		3: {true, 3, 1, true, 0, 0, 0},
		4: {true, 4, 1, true, 0, 0, 0},
	} {
		for k := range whole {
			whole[k] = seg(kind, row(255)...)
		}
		wantAsked(t, whole, want)
	}
}

// TestOrderedWherever: one confed segment behind a plain one is enough,
// wherever that is.
func TestOrderedWherever(t *testing.T) {
	for n := 1; n <= 32; n++ {
		for confed := range n + 1 {
			for _, kinds := range [][2]byte{{3, 2}, {4, 1}, {3, 1}, {4, 2}} {
				var p path.Path
				for k := range n {
					if k < confed {
						p = append(p, seg(kinds[0], 1, 2))
					} else {
						p = append(p, seg(kinds[1], 1, 2))
					}
				}
				wantOrdered(t, p, true)
				for k := confed + 1; k < n; k++ {
					q := copied(p)
					q[k].Kind = kinds[0]
					wantOrdered(t, q, false)
				}
			}
		}
	}
}

func wantOrdered(t *testing.T, p path.Path, want bool) {
	t.Helper()
	if got := walk.Ordered(p); got != want {
		t.Errorf("Ordered(%s): %v", shown(p), got)
	}
}

func TestHas(t *testing.T) {
	for _, c := range []struct {
		p   string
		in  []api.AS
		out []api.AS
	}{
		{"-", nil, []api.AS{0, 1}},
		{"10 20 30", []api.AS{10, 20, 30}, []api.AS{0, 1, 11, 1020, 40}},
		{"(1 2) [3,4] 5 6 {7,8}", []api.AS{1, 2, 3, 4, 5, 6, 7, 8}, []api.AS{0, 9, 65537}},
		{"0", []api.AS{0}, []api.AS{1, 65536}},
		{"65536", []api.AS{65536}, []api.AS{0, 1, 23456}},
		{"4294967295", []api.AS{math.MaxUint32}, []api.AS{65535, 0}},
	} {
		p := of(t, c.p)
		for _, n := range c.in {
			wantHas(t, p, n, true)
		}
		for _, n := range c.out {
			wantHas(t, p, n, false)
		}
	}
	whole := path.Path{}
	for k := range 32 {
		whole = append(whole, seg(byte(k%4+1), row(255)...))
	}
	for k := range 32 {
		whole[k].Numbers[254] = 70000
		wantHas(t, whole, 70000, true)
		whole[k].Numbers[254] = 255
		wantHas(t, whole, 70000, false)
	}
}

func wantHas(t *testing.T, p path.Path, n api.AS, want bool) {
	t.Helper()
	if got := walk.Has(p, n); got != want {
		t.Errorf("Has(%s, %d): %v", shown(p), n, got)
	}
}

func wantLoops(t *testing.T, p path.Path, member, confed api.AS, want bool) {
	t.Helper()
	if got := walk.Loops(p, member, confed); got != want {
		t.Errorf("Loops(%s, %d, %d): %v", shown(p), member, confed, got)
	}
}

func TestLoops(t *testing.T) {
	for _, c := range []struct {
		p              string
		member, confed api.AS
		want           bool
	}{
		{"-", 0, 0, false},
		{"-", 1, 100, false},
		{"(1 2) 10 {20,30}", 1, 100, true},
		{"(1 2) 10 {20,30}", 2, 100, true},
		{"(1 2) 10 {20,30}", 3, 100, false},
		{"(1 2) 10 {20,30}", 3, 10, true},
		{"(1 2) 10 {20,30}", 3, 20, true},
		{"(1 2) 10 {20,30}", 3, 30, true},
		{"(1 2) 10 {20,30}", 10, 1, false},
		{"(1 2) 10 {20,30}", 20, 2, false},
		{"(1 2) 10 {20,30}", 1, 10, true},
		{"[1,2] 10", 2, 100, true},
		{"[1,2] 10", 10, 2, false},
		{"10 (2)", 2, 100, true},
		{"10 (2) 100", 1, 100, true},
		{"(7) 8", 7, 7, true},
		{"(8) 7", 7, 7, true},
		{"(8) 8", 7, 7, false},
		{"(0) 8", 0, 7, true},
		{"(1) 0", 7, 0, true},
		{"(1) 0", 0, 7, false},
		{"(65537) 65637", 1, 101, false},
		{"(65537) 65637", 65537, 0, true},
		{"(65537) 65637", 1, 65637, true},
	} {
		wantLoops(t, of(t, c.p), c.member, c.confed, c.want)
	}
}

func wantRight(t *testing.T, p path.Path, class int, peer api.AS, want bool) {
	t.Helper()
	if got := walk.Right(p, class, peer); got != want {
		t.Errorf("Right(%s, %d, %d): %v", shown(p), class, peer, got)
	}
}

func TestRight(t *testing.T) {
	for _, c := range []struct {
		p                       string
		peer                    api.AS
		inside, confed, outside bool
	}{
		{"-", 10, true, false, false},
		{"-", 0, true, false, false},
		{"10", 10, true, false, true},
		{"10 20", 10, true, false, true},
		{"10 20", 20, true, false, false},
		{"10 20", 0, true, false, false},
		{"70000", 70000, true, false, true},
		{"70000", 4464, true, false, false},
		{"70000", 23456, true, false, false},
		{"10 {20}", 10, true, false, true},
		{"10 | 20", 10, true, false, true},
		{"{10}", 10, true, false, false},
		{"{10} 10", 10, true, false, false},
		{"(10)", 10, true, true, false},
		{"(10 20)", 10, true, true, false},
		{"(10 20)", 20, true, false, false},
		{"[10]", 10, true, false, false},
		{"[10] (10)", 10, true, false, false},
		{"[10] 10", 10, true, false, false},
		{"(10) 10", 10, true, true, false},
		{"(20) 10", 10, true, false, false},
		{"(10) [20] (30) {40} 50", 10, true, true, false},
		{"10 (20)", 10, false, false, false},
		{"10 [20]", 10, false, false, false},
		{"(10) 10 (20)", 10, false, false, false},
		{"(10) {20} [30]", 10, false, false, false},
		{"0", 0, false, false, false},
		{"(0)", 0, false, false, false},
		{"10 0", 10, false, false, false},
		{"10 {0}", 10, false, false, false},
		{"10 {20,0}", 10, false, false, false},
		{"10 | 20 0 30", 10, false, false, false},
		{"(10 0)", 10, false, false, false},
		{"(10) [0]", 10, false, false, false},
		{"(10) 0", 10, false, false, false},
		{"0 10", 10, false, false, false},
	} {
		p := of(t, c.p)
		wantRight(t, p, walk.Inside, c.peer, c.inside)
		wantRight(t, p, walk.Confed, c.peer, c.confed)
		wantRight(t, p, walk.Outside, c.peer, c.outside)
		for _, class := range []int{0, 4, -1, -3, 5, 255, 257, 258, 259, math.MaxInt, math.MinInt} {
			wantRight(t, p, class, c.peer, false)
		}
	}
}

// TestAskedOfWhatMayNotBe: that has nothing of what is asked for.
func TestAskedOfWhatMayNotBe(t *testing.T) {
	for _, p := range wrongs() {
		wantAsked(t, p, asked{})
		for _, n := range []api.AS{0, 1, 2, 3, 7} {
			wantHas(t, p, n, false)
			wantLoops(t, p, n, n, false)
			for class := range 5 {
				wantRight(t, p, class, n, false)
			}
		}
	}
}

// flat is a number and where it stands.
type flat struct {
	n       api.AS
	kind    byte
	segment int
}

// flattened is all numbers of p.
func flattened(p path.Path) []flat {
	var l []flat
	for k, s := range p {
		for _, n := range s.Numbers {
			l = append(l, flat{n, s.Kind, k})
		}
	}
	return l
}

// model is the chapter's words on a path that may be, number by number.
func model(p path.Path) asked {
	l := flattened(p)
	a := asked{ordered: true}
	plain := -1 // where the first plain segment is
	for k, f := range l {
		isPlain := f.kind == 1 || f.kind == 2
		if k == 0 {
			a.kind, a.first, a.is = f.kind, f.n, true
		}
		if isPlain && plain < 0 {
			plain = k
		}
		if !isPlain && plain >= 0 {
			a.ordered = false
		}
		if f.kind == 2 || f.kind == 1 && (k == 0 || l[k-1].segment != f.segment) {
			a.length++
		}
	}
	if plain >= 0 && l[plain].kind == 2 {
		a.neighbour = l[plain].n
	}
	if len(l) > 0 && l[len(l)-1].kind == 2 {
		a.origin = l[len(l)-1].n
	}
	return a
}

// modelRight is whether p is right, by the same words.
func modelRight(p path.Path, class int, peer api.AS) bool {
	confed := false
	for _, f := range flattened(p) {
		confed = confed || f.kind == 3 || f.kind == 4
		if f.n == 0 {
			return false
		}
	}
	a := model(p)
	switch class {
	case 1:
		return a.ordered
	case 2:
		return a.ordered && a.is && a.kind == 3 && a.first == peer
	case 3:
		return a.ordered && !confed && a.is && a.kind == 2 && a.first == peer
	}
	return false
}

// TestAskedAsModel holds all that is asked against the chapter's words.
func TestAskedAsModel(t *testing.T) {
	right := map[int]int{}
	eachPath(func(p path.Path) {
		was := copied(p)
		wantAsked(t, p, model(p))
		for n := range api.AS(4) {
			has, inConfed, inPlain := false, false, false
			for _, f := range flattened(p) {
				has = has || f.n == n
				inConfed = inConfed || f.n == n && f.kind >= 3
				inPlain = inPlain || f.n == n && f.kind <= 2
			}
			wantHas(t, p, n, has)
			wantLoops(t, p, n, nobody, inConfed)
			wantLoops(t, p, nobody, n, inPlain)
			wantLoops(t, p, n, n, has)
			for class := range 5 {
				wantRight(t, p, class, n, modelRight(p, class, n))
				if modelRight(p, class, n) {
					right[class]++
				}
			}
		}
		if !same(p, was) {
			t.Fatalf("%s was changed to %s by what was asked", shown(was), shown(p))
		}
		if t.Failed() {
			t.FailNow()
		}
	})
	if right[1] < 500 || right[2] < 500 || right[3] < 500 || right[0]+right[4] > 0 {
		t.Error("too few right ones:", right)
	}
}
