package path

import (
	"consulate/api"
	"consulate/number"
	"consulate/scroll"
)

// Bytes answers p's form (P7.2).
func (p Path) Bytes(wide bool) ([]byte, api.Errno) {
	if !p.May() {
		return nil, api.ErrArg
	}
	if !wide && p.hasWide() {
		return nil, api.ErrRange
	}
	w := scroll.Lay()
	for _, s := range p {
		s.lay(w, wide)
	}
	return w.Done()
}

// hasWide tells whether a number of p is wide.
func (p Path) hasWide() bool {
	for _, n := range p.All {
		if number.Wide(n) {
			return true
		}
	}
	return false
}

// lay lays the form of s. Narrow, no number of it is wide.
func (s Segment) lay(w *scroll.Writer, wide bool) {
	w.Byte(s.Kind, byte(len(s.Numbers)))
	for _, n := range s.Numbers {
		if wide {
			w.Four(uint32(n))
		} else {
			w.Two(number.Short(n))
		}
	}
}

// Read reads a path's form (P7.2).
func Read(b []byte, wide bool) (Path, api.Errno) {
	var p Path
	r := scroll.New(b)
	for r.Left() > 0 {
		s := take(r, wide)
		if !s.may() {
			r.Fail(api.ErrForm)
		}
		if len(p) == api.MaxPath {
			r.Fail(api.ErrFull)
		}
		p = append(p, s)
	}
	if e := r.Err(); e != api.OK {
		return nil, e
	}
	return p, api.OK
}

// take takes a segment's form, as far as it is there: r tells whether it is.
func take(r *scroll.Reader, wide bool) Segment {
	s := Segment{Kind: r.Byte()}
	for range r.Byte() {
		if wide {
			s.Numbers = append(s.Numbers, api.AS(r.Four()))
		} else {
			s.Numbers = append(s.Numbers, api.AS(r.Two()))
		}
	}
	return s
}
