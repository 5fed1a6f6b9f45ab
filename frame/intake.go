package frame

import (
	"slices"

	"consulate/api"
	"consulate/scroll"
)

// Intake gathers bytes. One that New did not make gathers nothing.
type Intake struct {
	made  bool
	bytes []byte // of one message that is not whole
	fault api.Fault
	data  []byte
}

// New answers an intake without bytes (P3.2).
func New() *Intake { return &Intake{made: true} }

// Feed gathers b, and answers the messages that are whole then (P3.2). It
// gathers no more than the message at hand needs, so that its head is judged
// before anything behind it is taken.
func (i *Intake) Feed(b []byte) []Message {
	var told []Message
	var h head
	if !i.gathers() {
		goto end
	}
begin:
	b = i.take(b, Head)
	if len(i.bytes) < Head {
		goto end
	}
	h = readHead(i.bytes[:Head])
	i.fault, i.data = h.fault()
	if i.faulty() {
		i.bytes = nil
		goto end
	}
	b = i.take(b, h.length)
	if len(i.bytes) < h.length {
		goto end
	}
	told = append(told, Message{Type: h.kind, Body: slices.Clone(i.bytes[Head:])})
	i.bytes = nil
	goto begin
end:
	return told
}

// gathers tells whether bytes that come are gathered at all.
func (i *Intake) gathers() bool { return i != nil && i.made && !i.faulty() }

func (i *Intake) faulty() bool { return i.fault != api.Fault{} }

// take gathers bytes of b until there are so many, and answers the others.
func (i *Intake) take(b []byte, many int) []byte {
	n := min(len(b), max(many-len(i.bytes), 0))
	i.bytes = append(i.bytes, b[:n]...)
	return b[n:]
}

// Fault tells the fault, and its data (P3.2).
func (i *Intake) Fault() (api.Fault, []byte) {
	if i == nil {
		return api.Fault{}, nil
	}
	return i.fault, slices.Clone(i.data)
}

// Waits tells how many bytes are gathered of a message that is not whole (P3.2).
func (i *Intake) Waits() int {
	if i == nil {
		return 0
	}
	return len(i.bytes)
}

// Copy answers an intake that lives apart (P3.2). Of one that New did not make
// there is nothing to live on: that is none.
func (i *Intake) Copy() *Intake {
	if i == nil || !i.made {
		return nil
	}
	c := *i
	c.bytes = slices.Clone(i.bytes)
	c.data = slices.Clone(i.data)
	return &c
}

// head is what stands ahead of a message's body.
type head struct {
	marked bool
	length int
	kind   byte
}

// readHead reads a message's first Head bytes.
func readHead(b []byte) head {
	r := scroll.New(b)
	other := func(b byte) bool { return b != marker }
	marked := !slices.ContainsFunc(r.Take(markers), other)
	return head{marked: marked, length: int(r.Two()), kind: r.Byte()}
}

// fault tells the first thing that is wrong with it, and the data that tell of
// it; 0, 0 of nothing.
func (h head) fault() (api.Fault, []byte) {
	length := []byte{byte(h.length >> 8), byte(h.length)}
	switch {
	case !h.marked:
		return api.Fault{Code: 1, Sub: 1}, nil
	case h.length < Head || h.length > api.MaxMessage:
		return api.Fault{Code: 1, Sub: 2}, length
	case !known(h.kind):
		return api.Fault{Code: 1, Sub: 3}, []byte{h.kind}
	case !fits(h.kind, h.length):
		return api.Fault{Code: 1, Sub: 2}, length
	}
	return api.Fault{}, nil
}
