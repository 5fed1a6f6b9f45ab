package update

import (
	"consulate/attrs"
	"consulate/fuse"
	"consulate/number"
)

// Narrowed answers a for a session without four bytes (P11.1). What a had
// beside its path and its Aggregator was of another session.
func Narrowed(a attrs.Attrs) attrs.Attrs {
	a = plain(a)
	if a.Is(attrs.Path) {
		narrow, beside, has := fuse.Narrow(a.Path)
		a.Path = narrow
		if has {
			a.Has |= 1 << attrs.Path4
			a.Path4 = beside
		}
	}
	if a.Is(attrs.Aggregator) && number.Wide(a.By.AS) {
		a.Has |= 1 << attrs.Aggregator4
		a.By4 = a.By
		a.By.AS = number.Trans
	}
	return a
}

// Widened answers a, which came in a session without four bytes, with its wide
// numbers (P11.1).
func Widened(a attrs.Attrs) attrs.Attrs {
	whole, wide := fuse.Whole(told(a))
	by := a.By4
	a = plain(a)
	if a.Is(attrs.Path) {
		a.Path = whole
	}
	if wide {
		a.By = by
	}
	return a
}

// told is what a says of its path and its Aggregator, and beside them.
func told(a attrs.Attrs) fuse.Told {
	return fuse.Told{
		Path:      a.Path,
		Beside:    a.Path4,
		HasBeside: a.Is(attrs.Path4),
		HasBy:     a.Is(attrs.Aggregator),
		HasWide:   a.Is(attrs.Aggregator4),
		By:        a.By.AS,
		Wide:      a.By4.AS,
	}
}

// hasBeside tells whether a has something beside its path, or its Aggregator.
func hasBeside(a attrs.Attrs) bool { return a.Is(attrs.Path4) || a.Is(attrs.Aggregator4) }

// plain is a, in new memory, without what goes beside.
func plain(a attrs.Attrs) attrs.Attrs {
	return a.Without(attrs.Path4).Without(attrs.Aggregator4)
}
