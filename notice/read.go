package notice

import (
	"math"

	"consulate/api"
	"consulate/attrs"
	"consulate/frame"
	"consulate/open"
	"consulate/scroll"
	"consulate/update"
)

// The faults of a message's head.
const (
	head      = 1
	badLength = 2
	badType   = 3
)

// Read answers what m says, or the notice of what is wrong with it (P12.1).
func Read(m frame.Message, s update.Session) (Message, Notice) {
	read, known := readers(s)[m.Type]
	if !known {
		return refuse(badType, m.Type)
	}
	// Only a length that the type does not have is ErrArg there.
	if _, e := m.Bytes(); e == api.ErrArg {
		length := uint16(min(frame.Head+len(m.Body), math.MaxUint16))
		return refuse(badLength, byte(length>>8), byte(length))
	}
	said, wrong := read(m.Body)
	if wrong.Fault != (api.Fault{}) {
		return Message{}, wrong
	}
	said.Type = m.Type
	return said, Notice{}
}

// refuse answers the notice of a head's fault.
func refuse(sub byte, data ...byte) (Message, Notice) {
	return Message{}, Notice{Fault: api.Fault{Code: head, Sub: sub}, Data: data}
}

// readers has for each type how the body of such a message is read in s, or
// what is wrong with it. The bodies have one of their type's lengths.
func readers(s update.Session) map[byte]func(body []byte) (Message, Notice) {
	return map[byte]func(body []byte) (Message, Notice){
		frame.Open: func(body []byte) (Message, Notice) {
			o, f, data := open.Get(body)
			return Message{Open: o}, Notice{Fault: f, Data: data}
		},
		frame.Update: func(body []byte) (Message, Notice) {
			r := update.Read(body, s)
			if r.Fate.Class == attrs.Reset {
				return Message{}, Notice{Fault: r.Fate.Fault, Data: r.Fate.Data}
			}
			return Message{Update: r.Update, Class: r.Fate.Class}, Notice{}
		},
		frame.Notification: func(body []byte) (Message, Notice) {
			r := scroll.New(body)
			f := api.Fault{Code: r.Byte(), Sub: r.Byte()}
			return Message{Notice: Notice{Fault: f, Data: r.Rest()}}, Notice{}
		},
		frame.Keepalive: func([]byte) (Message, Notice) {
			return Message{}, Notice{}
		},
		frame.Refresh: func(body []byte) (Message, Notice) {
			r := scroll.New(body)
			family := r.Two()
			r.Byte()
			return Message{Refresh: Refresh{Family: family, Sub: r.Byte()}}, Notice{}
		},
	}
}
