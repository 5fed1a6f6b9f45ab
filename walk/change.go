package walk

import (
	"slices"

	"consulate/api"
	"consulate/path"
)

// Prepend answers p with n put ahead, in a segment of this kind (P8.1).
func Prepend(p path.Path, kind byte, n api.AS) (path.Path, api.Errno) {
	if !p.May() || kind != path.Sequence && kind != path.ConfedSequence {
		return nil, api.ErrArg
	}
	if hasRoom(p, kind) {
		q := p.Copy()
		q[0].Numbers = slices.Insert(q[0].Numbers, 0, n)
		return q, api.OK
	}
	if len(p) == api.MaxPath {
		return nil, api.ErrFull
	}
	return append(path.Of(kind, n), p.Copy()...), api.OK
}

// hasRoom tells whether p begins with a segment of this kind that takes one
// more number.
func hasRoom(p path.Path, kind byte) bool {
	return len(p) > 0 && p[0].Kind == kind && len(p[0].Numbers) < api.MaxSegment
}

// Strip answers p without its confed segments (P8.1).
func Strip(p path.Path) path.Path {
	if !p.May() {
		return nil
	}
	return slices.DeleteFunc(p.Copy(), func(s path.Segment) bool { return isConfed(s.Kind) })
}

// Replace answers p with new for each number old (P8.1).
func Replace(p path.Path, old, new api.AS) path.Path {
	if !p.May() {
		return nil
	}
	q := p.Copy()
	for _, s := range q {
		for k, n := range s.Numbers {
			if n == old {
				s.Numbers[k] = new
			}
		}
	}
	return q
}
