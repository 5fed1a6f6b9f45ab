package scroll

import (
	"slices"

	"consulate/api"
)

// hold is so many bytes that are to tell how many were laid behind them.
type hold struct {
	wide   int
	behind int // the place of the first byte behind it
}

// Writer is bytes that are laid, with holds. One that Lay did not make lays
// nothing, and its error is ErrNil.
type Writer struct {
	made  bool
	bytes []byte
	holds []hold
	err   api.Errno
}

// Lay answers a writer without bytes (P1.3).
func Lay() *Writer { return &Writer{made: true} }

// Byte lays bytes in order (P1.3).
func (w *Writer) Byte(l ...byte) *Writer {
	if w.Err() == api.OK {
		w.bytes = append(w.bytes, l...)
	}
	return w
}

// Two lays numbers of two bytes in order (P1.3).
func (w *Writer) Two(l ...uint16) *Writer {
	for _, n := range l {
		w.Byte(byte(n>>8), byte(n))
	}
	return w
}

// Four lays numbers of four bytes in order (P1.3).
func (w *Writer) Four(l ...uint32) *Writer {
	for _, n := range l {
		w.Two(uint16(n>>16), uint16(n))
	}
	return w
}

// Hold lays so many bytes that a later Fill fills (P1.3).
func (w *Writer) Hold(wide int) *Writer {
	if wide != 1 && wide != 2 {
		w.note(api.ErrArg)
	}
	if w.Err() == api.OK {
		w.Byte(make([]byte, wide)...)
		w.holds = append(w.holds, hold{wide: wide, behind: len(w.bytes)})
	}
	return w
}

// Fill lets the last hold tell how many bytes were laid behind it (P1.3).
func (w *Writer) Fill() *Writer {
	if w.Err() != api.OK {
		return w
	}
	last := len(w.holds) - 1
	if last < 0 {
		w.note(api.ErrUse)
		return w
	}
	h := w.holds[last]
	n := len(w.bytes) - h.behind
	if n>>(8*h.wide) > 0 {
		w.note(api.ErrLong)
		return w
	}
	for i := range h.wide {
		w.bytes[h.behind-1-i] = byte(n >> (8 * i))
	}
	w.holds = w.holds[:last]
	return w
}

// Len tells how many bytes are laid (P1.3).
func (w *Writer) Len() int {
	if w == nil {
		return 0
	}
	return len(w.bytes)
}

// Err tells the error (P1.3).
func (w *Writer) Err() api.Errno {
	if w == nil || !w.made {
		return api.ErrNil
	}
	return w.err
}

// note keeps e, unless there is an error already.
func (w *Writer) note(e api.Errno) {
	if w.Err() == api.OK {
		w.err = e
	}
}

// Done answers the bytes (P1.3). With something held it tells ErrUse without
// noting it: the writer is as it was, and can still be filled.
func (w *Writer) Done() ([]byte, api.Errno) {
	if e := w.Err(); e != api.OK {
		return nil, e
	}
	if len(w.holds) > 0 {
		return nil, api.ErrUse
	}
	return slices.Clone(w.bytes), api.OK
}
