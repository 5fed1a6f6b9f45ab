// Package scroll is layer 1: bytes that are read and laid, with blocks in blocks.
// See shared/doc/01-scroll.md.
package scroll

import (
	"slices"

	"consulate/api"
)

// block is one that is open. Blocks hang on each other instead of standing in
// a slice, so that a copy of a reader never sees what the other one opens.
type block struct {
	end    int
	deep   int
	around *block
}

// Reader is bytes that are read, with blocks. One that New did not make reads
// nothing, and its error is ErrNil.
type Reader struct {
	made  bool
	bytes []byte
	at    int
	inner *block
	err   api.Errno
}

// New answers a reader at b's first byte (P1.1). It reads a copy, for b may be
// changed afterwards by whoever handed it in.
func New(b []byte) *Reader {
	return &Reader{made: true, bytes: slices.Clone(b)}
}

// Byte takes the next byte (P1.1).
func (r *Reader) Byte() byte { return next[byte](r, 1) }

// Two takes the number of the next two bytes (P1.1).
func (r *Reader) Two() uint16 { return next[uint16](r, 2) }

// Four takes the number of the next four bytes (P1.1).
func (r *Reader) Four() uint32 { return next[uint32](r, 4) }

// Take takes the next n bytes (P1.1).
func (r *Reader) Take(n int) []byte { return slices.Clone(r.pass(n)) }

// Rest takes all that is left (P1.1).
func (r *Reader) Rest() []byte { return r.Take(r.Left()) }

// next takes a number of so many bytes, the first one the highest.
func next[N byte | uint16 | uint32](r *Reader, wide int) N {
	var n uint32
	for _, b := range r.pass(wide) {
		n = n<<8 | uint32(b)
	}
	return N(n)
}

// pass goes on by n bytes and answers them where they stand: no caller may
// hand them out as they are.
func (r *Reader) pass(n int) []byte {
	if !r.fits(n) {
		return nil
	}
	from := r.at
	r.at += n
	return r.bytes[from:r.at]
}

// fits tells whether n bytes can be taken, and notes ErrShort if not.
func (r *Reader) fits(n int) bool {
	if n < 0 || n > r.Left() {
		r.Fail(api.ErrShort)
	}
	return r.Err() == api.OK
}

// Open opens a block of the next n bytes (P1.2).
func (r *Reader) Open(n int) {
	if r.fits(n) {
		r.inner = &block{end: r.at + n, deep: r.Deep() + 1, around: r.inner}
	}
}

// Close closes the innermost block, of which nothing may be left (P1.2).
func (r *Reader) Close() {
	if r.Deep() > 0 && r.Left() > 0 {
		r.Fail(api.ErrForm)
		return
	}
	r.Skip()
}

// Skip passes over what is left of the innermost block, and closes it (P1.2).
func (r *Reader) Skip() {
	if r.within() {
		r.at = r.inner.end
		r.inner = r.inner.around
	}
}

// within tells whether a block can be closed, and notes ErrUse if none is open.
func (r *Reader) within() bool {
	if r.Deep() == 0 {
		r.Fail(api.ErrUse)
	}
	return r.Err() == api.OK
}

// Left tells how many bytes are left up to the end of the innermost block (P1.2).
func (r *Reader) Left() int {
	if r.Err() != api.OK {
		return 0
	}
	if r.inner == nil {
		return len(r.bytes) - r.at
	}
	return r.inner.end - r.at
}

// Deep tells how many blocks are open (P1.2).
func (r *Reader) Deep() int {
	if r == nil || r.inner == nil {
		return 0
	}
	return r.inner.deep
}

// At tells the place, counted from the first byte of all (P1.2).
func (r *Reader) At() int {
	if r == nil {
		return 0
	}
	return r.at
}

// Err tells the error (P1.2).
func (r *Reader) Err() api.Errno {
	if r == nil || !r.made {
		return api.ErrNil
	}
	return r.err
}

// Fail notes e, unless there is an error already (P1.2).
func (r *Reader) Fail(e api.Errno) {
	if r.Err() == api.OK {
		r.err = e
	}
}
