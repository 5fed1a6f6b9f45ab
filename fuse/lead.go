package fuse

import (
	"slices"

	"consulate/api"
	"consulate/path"
)

// Fuse answers p and the one beside it, fused (P9.2).
func Fuse(p, beside path.Path) path.Path {
	wanting := Weight(p) - Weight(beside)
	if wanting < 0 {
		return p.Copy()
	}
	return joined(lead(p, wanting), Bare(beside))
}

// lead answers, in new memory, what of p goes ahead of a path that weighs less
// by what is wanting.
func lead(p path.Path, wanting int) path.Path {
	var ahead path.Path
next:
	if len(p) == 0 || wanting == 0 && !isConfed(p[0].Kind) {
		return ahead
	}
	s := taken(p[0], wanting)
	ahead = append(ahead, s)
	wanting -= weight(s)
	if len(s.Numbers) < len(p[0].Numbers) {
		return ahead
	}
	p = p[1:]
	goto next
}

// taken answers s, but of a Sequence no more than what is wanting.
func taken(s path.Segment, wanting int) path.Segment {
	count := len(s.Numbers)
	if s.Kind == path.Sequence {
		count = min(count, wanting)
	}
	return path.Segment{Kind: s.Kind, Numbers: slices.Clone(s.Numbers[:count])}
}

// joined answers ahead and p behind it. Two Sequences that meet there are one as
// far as p's has room: whoever puts a number ahead begins no new segment while
// there is room in the one that he finds.
func joined(ahead, p path.Path) path.Path {
	end := len(ahead) - 1
	if end < 0 || len(p) == 0 || ahead[end].Kind != path.Sequence || p[0].Kind != path.Sequence {
		return append(ahead, p...)
	}
	last, first := &ahead[end], &p[0]
	room := max(api.MaxSegment-len(first.Numbers), 0)
	left := max(len(last.Numbers)-room, 0)
	first.Numbers = slices.Insert(first.Numbers, 0, last.Numbers[left:]...)
	last.Numbers = last.Numbers[:left]
	if left == 0 {
		ahead = ahead[:end]
	}
	return append(ahead, p...)
}
