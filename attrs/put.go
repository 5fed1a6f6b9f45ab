package attrs

import (
	"slices"

	"consulate/api"
	"consulate/number"
	"consulate/scroll"
)

// short is how many bytes a value has at most, if one byte tells how many.
const short = 255

// Put answers the form of all that a has, by rising types (P10.3).
func Put(a Attrs, four bool) ([]byte, api.Errno) {
	if !a.May() {
		return nil, api.ErrArg
	}
	all := slices.Clone(a.Others)
	for k, flags := range wanted {
		typ := byte(k)
		if !a.Is(typ) || !known(typ) || four && besides(typ) {
			continue
		}
		v, e := a.value(typ, four)
		if e != api.OK {
			return nil, e
		}
		all = append(all, Other{Flags: flags, Type: typ, Value: v})
	}
	slices.SortFunc(all, byType)
	w := scroll.Lay()
	for _, o := range all {
		o.lay(w)
	}
	return w.Done()
}

// besides tells whether a type tells what goes beside numbers of two bytes, and
// is not wanted where four are told.
func besides(typ byte) bool { return typ == Path4 || typ == Aggregator4 }

// value answers the value of a known type, which a has; ErrRange, if two bytes
// can't tell it.
func (a Attrs) value(typ byte, four bool) ([]byte, api.Errno) {
	w := scroll.Lay()
	switch typ {
	case Path:
		return a.Path.Bytes(four)
	case Path4:
		return a.Path4.Bytes(true)
	case Aggregator:
		return a.By.bytes(four)
	case Aggregator4:
		return a.By4.bytes(true)
	case Origin:
		w.Byte(a.Origin)
	case NextHop:
		w.Four(uint32(a.NextHop))
	case Med:
		w.Four(a.Med)
	case Pref:
		w.Four(a.Pref)
	case Communities:
		w.Four(a.Communities...)
	}
	return w.Done()
}

// bytes answers the value that tells who aggregated.
func (by By) bytes(wide bool) ([]byte, api.Errno) {
	w := scroll.Lay()
	switch {
	case wide:
		w.Four(uint32(by.AS))
	case number.Wide(by.AS):
		return nil, api.ErrRange
	default:
		w.Two(number.Short(by.AS))
	}
	return w.Four(uint32(by.IP)).Done()
}

// lay lays the form of o.
func (o Other) lay(w *scroll.Writer) {
	if len(o.Value) > short {
		w.Byte(o.Flags|extended, o.Type).Hold(2)
	} else {
		w.Byte(o.Flags, o.Type).Hold(1)
	}
	w.Byte(o.Value...).Fill()
}
