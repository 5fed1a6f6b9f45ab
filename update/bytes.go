package update

import (
	"consulate/api"
	"consulate/attrs"
	"consulate/frame"
	"consulate/prefix"
	"consulate/scroll"
)

// maxBody is how many bytes a body has at most.
const maxBody = api.MaxMessage - frame.Head

// Told answers the bytes of a, as a session of that kind tells them (P11.2).
func Told(a attrs.Attrs, four bool) ([]byte, api.Errno) {
	if hasBeside(a) {
		return nil, api.ErrArg
	}
	if four {
		return attrs.Put(a, true)
	}
	return attrs.Put(Narrowed(a), false)
}

// Bytes answers u's body (P11.3).
func Bytes(u Update, four bool) ([]byte, api.Errno) {
	withdrawn, e := prefix.Bytes(u.Withdrawn...)
	if e != api.OK {
		return nil, e
	}
	announced, e := prefix.Bytes(u.Announced...)
	if e != api.OK {
		return nil, e
	}
	with, e := u.with(four)
	if e != api.OK {
		return nil, e
	}
	b, e := scroll.Lay().
		Hold(2).Byte(withdrawn...).Fill().
		Hold(2).Byte(with...).Fill().
		Byte(announced...).
		Done()
	if e != api.OK {
		return nil, e
	}
	if len(b) > maxBody {
		return nil, api.ErrLong
	}
	return b, api.OK
}

// with answers the bytes of the attributes that u announces something with;
// none, and whatever they are, if it announces nothing.
func (u Update) with(four bool) ([]byte, api.Errno) {
	if len(u.Announced) == 0 {
		return nil, api.OK
	}
	if u.Attrs.Missing(false) != 0 {
		return nil, api.ErrArg
	}
	return Told(u.Attrs, four)
}
