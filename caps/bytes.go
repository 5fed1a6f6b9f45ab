package caps

import (
	"slices"

	"consulate/api"
	"consulate/scroll"
)

// capabilities is the type of the parameters that have them.
const capabilities = 2

// What a value, and what all parameters may have at most, in bytes.
const (
	maxValue = 253
	maxAll   = 255
)

// Read reads the parameters of an OPEN (P5.1). That a parameter is all there
// is asked ahead of its type.
func Read(b []byte) ([]Cap, api.Fault) {
	var l []Cap
	r := scroll.New(b)
	for r.Left() > 0 {
		kind := r.Byte()
		r.Open(int(r.Byte()))
		if r.Err() == api.OK && kind != capabilities {
			return nil, api.Fault{Code: 2, Sub: 4}
		}
		for r.Left() > 0 {
			l = append(l, read(r))
		}
		r.Close()
	}
	if r.Err() != api.OK {
		return nil, api.Fault{Code: 2, Sub: 0}
	}
	return l, api.Fault{}
}

// read reads one capability; r notes it, if that is not all there.
func read(r *scroll.Reader) Cap {
	code := r.Byte()
	return Cap{Code: code, Value: r.Take(int(r.Byte()))}
}

// Bytes answers the parameters of an OPEN that tell l (P5.2). It lays one
// parameter alone: what would need a second one is more than all may have.
func Bytes(l []Cap) ([]byte, api.Errno) {
	if slices.ContainsFunc(l, tooLong) {
		return nil, api.ErrArg
	}
	if len(l) == 0 {
		return nil, api.OK
	}
	w := scroll.Lay().Byte(capabilities).Hold(1)
	for _, c := range l {
		w.Byte(c.Code).Hold(1).Byte(c.Value...).Fill()
	}
	if w.Len() > maxAll {
		return nil, api.ErrLong
	}
	return w.Fill().Done()
}

// tooLong tells whether c's value is longer than a parameter has room for.
func tooLong(c Cap) bool { return len(c.Value) > maxValue }
