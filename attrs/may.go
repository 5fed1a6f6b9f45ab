package attrs

import (
	"consulate/api"
	"consulate/fuse"
)

// maxValue is how many bytes a value has at most: two bytes tell how many.
const maxValue = 65535

// incomplete is the last of the origins.
const incomplete = 2

// May tells whether a may be (P10.1).
func (a Attrs) May() bool {
	left, told := a.Has, a
	for k := range wanted {
		typ := byte(k)
		switch {
		case !known(typ):
		case !a.Is(typ):
			told.drop(typ)
		case !a.right(typ):
			return false
		default:
			left &^= bit(typ)
		}
	}
	return left == 0 && Same(a, told) && mayOthers(a.Others)
}

// right tells whether what a says of a known type, which it has, is as it must
// be.
func (a Attrs) right(typ byte) bool {
	switch typ {
	case Origin:
		return a.Origin <= incomplete
	case Path:
		return a.Path.May()
	case NextHop:
		return isHost(a.NextHop)
	case Communities:
		return len(a.Communities) > 0 && len(a.Communities) <= maxValue/4
	case Path4:
		plain := len(fuse.Bare(a.Path4))
		return plain > 0 && plain == len(a.Path4) && a.Path4.May()
	}
	return true
}

// isHost tells whether an IP is such as hosts have.
func isHost(ip api.IP) bool {
	first := ip >> 24
	return first >= 1 && first <= 223 && first != 127
}

// mayOthers tells whether each of l may be, and their types rise.
func mayOthers(l []Other) bool {
	for k, o := range l {
		if !o.may() || k > 0 && o.Type <= l[k-1].Type {
			return false
		}
	}
	return true
}

// may tells whether o may be, apart from the others.
func (o Other) may() bool {
	return !known(o.Type) && o.Flags|partial == both|partial && len(o.Value) <= maxValue
}
