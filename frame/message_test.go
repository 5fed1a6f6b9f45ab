package frame_test

import (
	"bytes"
	"testing"

	"consulate/api"
	"consulate/frame"
)

// lengths are those of the types, as the chapter has them: none has two that
// are not next to each other.
var lengths = map[byte]struct{ least, most int }{
	frame.Open:         {29, 1 << 30},
	frame.Update:       {23, 1 << 30},
	frame.Notification: {21, 1 << 30},
	frame.Keepalive:    {19, 19},
	frame.Refresh:      {23, 23},
}

// raw is a message's form, whatever its length and type say.
func raw(length int, kind byte, body ...byte) []byte {
	b := bytes.Repeat([]byte{0xff}, 16)
	b = append(b, byte(length>>8), byte(length), kind)
	return append(b, body...)
}

// fill is a body of so many bytes that tells where each of them stood.
func fill(n int) []byte {
	b := make([]byte, n)
	for k := range b {
		b[k] = byte(k*7 + k>>8)
	}
	return b
}

// whole is the form of a message of that length.
func whole(length int, kind byte) []byte { return raw(length, kind, fill(length-frame.Head)...) }

func wantForm(t *testing.T, m frame.Message, want []byte, wantErr api.Errno) {
	t.Helper()
	if b, e := m.Bytes(); !bytes.Equal(b, want) || e != wantErr {
		t.Errorf("type %d, body of %d: %d bytes, %d, want %d bytes, %d", m.Type, len(m.Body), len(b), e, len(want), wantErr)
	}
}

func TestConstants(t *testing.T) {
	if frame.Open != 1 || frame.Update != 2 || frame.Notification != 3 || frame.Keepalive != 4 || frame.Refresh != 5 || frame.Head != 19 {
		t.Error("a type's number, or Head, is another one")
	}
}

func TestFormOfMessages(t *testing.T) {
	wantForm(t, frame.Message{Type: frame.Keepalive}, []byte("\xff\xff\xff\xff\xff\xff\xff\xff\xff\xff\xff\xff\xff\xff\xff\xff\x00\x13\x04"), api.OK)
	wantForm(t, frame.Message{Type: frame.Keepalive, Body: []byte{}}, raw(19, 4), api.OK)
	wantForm(t, frame.Message{Type: frame.Refresh, Body: []byte{0, 1, 0, 1}}, raw(23, 5, 0, 1, 0, 1), api.OK)
	wantForm(t, frame.Message{Type: frame.Notification, Body: []byte{6, 2, 7}}, raw(22, 3, 6, 2, 7), api.OK)
	wantForm(t, frame.Message{Type: frame.Update, Body: fill(300)}, raw(319, 2, fill(300)...), api.OK)
}

// TestFormAtEveryLength: P3.1 of every type, and of some that are none, at
// every length up to one that is too long for all.
func TestFormAtEveryLength(t *testing.T) {
	for _, kind := range []byte{0, 1, 2, 3, 4, 5, 6, 7, 127, 128, 255} {
		for n := range api.MaxMessage + 5 {
			m := frame.Message{Type: kind, Body: fill(n)}
			length := n + 19
			l, is := lengths[kind]
			switch {
			case !is || length < l.least || length > l.most:
				wantForm(t, m, nil, api.ErrArg)
			case length > 4096:
				wantForm(t, m, nil, api.ErrLong)
			default:
				wantForm(t, m, whole(length, kind), api.OK)
			}
		}
	}
}

func TestFormOfWhatIsFarTooLong(t *testing.T) {
	for _, length := range []int{65535, 65536, 65536 + 19, 65536 + 23, 65536 + 40, 1 << 20} {
		for kind := range 256 {
			want := api.ErrArg
			if kind >= 1 && kind <= 3 {
				want = api.ErrLong
			}
			wantForm(t, frame.Message{Type: byte(kind), Body: make([]byte, length-19)}, nil, want)
		}
	}
}

func TestFormSharesNoMemory(t *testing.T) {
	body := []byte{6, 2, 7}
	m := frame.Message{Type: frame.Notification, Body: body}
	first, _ := m.Bytes()
	second, _ := m.Bytes()
	if !bytes.Equal(body, []byte{6, 2, 7}) {
		t.Error("the body was changed", body)
	}
	clear(first)
	body[0] = 9
	if !bytes.Equal(second, raw(22, 3, 6, 2, 7)) {
		t.Error("two answers share memory, or share it with the body", second)
	}
}
