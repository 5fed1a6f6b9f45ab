package notice

import (
	"consulate/api"
	"consulate/frame"
	"consulate/open"
	"consulate/scroll"
	"consulate/update"
)

// Bytes answers the whole message's bytes, for a session with numbers of four
// bytes, if four (P12.2).
func Bytes(m Message, four bool) ([]byte, api.Errno) {
	body, e := m.body(four)
	if e != api.OK {
		return nil, e
	}
	return frame.Message{Type: m.Type, Body: body}.Bytes()
}

// body answers what stands behind the message's head. Of a type that is none
// it is nothing, for frame refuses such a type.
func (m Message) body(four bool) ([]byte, api.Errno) {
	switch m.Type {
	case frame.Open:
		return open.Put(m.Open)
	case frame.Update:
		return update.Bytes(m.Update, four)
	case frame.Notification:
		f := m.Notice.Fault
		return scroll.Lay().Byte(f.Code, f.Sub).Byte(m.Notice.Data...).Done()
	case frame.Refresh:
		return scroll.Lay().Two(m.Refresh.Family).Byte(0, m.Refresh.Sub).Done()
	}
	return nil, api.OK
}
