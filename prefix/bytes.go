package prefix

import "consulate/api"

// size is how many bytes so many bits need.
func size(bits int) int { return (bits + 7) / 8 }

// Read reads a list's bytes (P2.3). The prefixes stand as the list has them,
// not sorted.
func Read(b []byte) ([]api.Prefix, api.Errno) {
	var l []api.Prefix
	for len(b) > 0 {
		bits := int(b[0])
		b = b[1:]
		if bits > width {
			return nil, api.ErrForm
		}
		n := size(bits)
		if n > len(b) {
			return nil, api.ErrShort
		}
		var address parts
		copy(address[:], b[:n])
		b = b[n:]
		l = append(l, Of(join(address), bits))
	}
	return l, api.OK
}

// Bytes answers the list's bytes (P2.3).
func Bytes(l ...api.Prefix) ([]byte, api.Errno) {
	var b []byte
	for _, p := range l {
		if !May(p) {
			return nil, api.ErrArg
		}
		address := part(p.IP)
		b = append(b, byte(p.Bits))
		b = append(b, address[:size(p.Bits)]...)
	}
	return b, api.OK
}
