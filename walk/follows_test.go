package walk_test

import (
	"testing"

	"consulate/api"
	"consulate/path"
	"consulate/walk"
)

// ahead is p with n put ahead, if there is room for it.
func ahead(t *testing.T, p path.Path, kind byte, n api.AS) (path.Path, bool) {
	t.Helper()
	q, e := walk.Prepend(p, kind, n)
	if e != api.OK && (e != api.ErrFull || len(p) < 32) {
		t.Fatalf("Prepend(%s, %d, %d): %d", shown(p), kind, n, e)
	}
	return q, e == api.OK
}

// TestWhoWasThere: P8.3.
func TestWhoWasThere(t *testing.T) {
	eachPath(func(p path.Path) {
		for _, n := range []api.AS{0, 1, 100, 65001, 70000} {
			for _, kind := range []byte{path.Sequence, path.ConfedSequence} {
				q, is := ahead(t, p, kind, n)
				if !is {
					continue
				}
				wantHas(t, q, n, true)
				if k, first, is := walk.First(q); k != kind || first != n || !is {
					t.Fatalf("First(%s): %d, %d, %v, want %d, %d", shown(q), k, first, is, kind, n)
				}
				if kind == path.ConfedSequence {
					wantLoops(t, q, n, nobody, true)
					wantLoops(t, walk.Strip(q), n, nobody, false)
				} else {
					wantLoops(t, q, nobody, n, true)
					wantLoops(t, walk.Strip(q), nobody, n, true)
				}
			}
		}
		stripped := walk.Strip(p)
		for n := range api.AS(4) {
			wantLoops(t, stripped, n, nobody, false)
			wantLoops(t, stripped, nobody, n, walk.Loops(p, nobody, n))
		}
		if t.Failed() {
			t.FailNow()
		}
	})
}

// TestLengths: P8.4.
func TestLengths(t *testing.T) {
	eachPath(func(p path.Path) {
		length := walk.Length(p)
		for kind, more := range map[byte]int{path.Sequence: 1, path.ConfedSequence: 0} {
			if q, is := ahead(t, p, kind, 7); is && walk.Length(q) != length+more {
				t.Fatalf("Length(%s): %d, of %s it is %d", shown(q), walk.Length(q), shown(p), length)
			}
		}
		stripped := walk.Strip(p)
		if walk.Length(stripped) != length || walk.Neighbour(stripped) != walk.Neighbour(p) {
			t.Fatalf("stripped, %s has another length or neighbour", shown(p))
		}
		if twice := walk.Strip(stripped); !same(twice, stripped) {
			t.Fatalf("stripped twice, %s is %s", shown(p), shown(twice))
		}
	})
}

// TestRightForTheNext: P8.5.
func TestRightForTheNext(t *testing.T) {
	right := 0
	eachPath(func(p path.Path) {
		_, peer, _ := walk.First(p)
		for class := walk.Inside; class <= walk.Outside; class++ {
			if !walk.Right(p, class, peer) {
				continue
			}
			right++
			for n := range api.AS(3) {
				if q, is := ahead(t, p, path.ConfedSequence, n); is {
					wantRight(t, q, walk.Confed, n, n != 0)
					wantRight(t, q, walk.Inside, n, n != 0)
				}
				if q, is := ahead(t, walk.Strip(p), path.Sequence, n); is {
					wantRight(t, q, walk.Outside, n, n != 0)
					wantRight(t, q, walk.Inside, n, n != 0)
				}
			}
		}
		if t.Failed() {
			t.FailNow()
		}
	})
	if right < 1000 {
		t.Error("too few right ones:", right)
	}
}
