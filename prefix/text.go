package prefix

import (
	"strconv"
	"strings"

	"consulate/api"
)

// maxDigits is how many digits a number has at most; with more it is none.
const maxDigits = 10

// IPText answers the address's text (P2.1).
func IPText(ip api.IP) string {
	var texts [4]string
	for k, b := range part(ip) {
		texts[k] = strconv.Itoa(int(b))
	}
	return strings.Join(texts[:], ".")
}

// ParseIP reads an address's text (P2.1). The form of all four numbers goes
// ahead of the size of any.
func ParseIP(s string) (api.IP, api.Errno) {
	var numbers [4]uint64
	for k, field := range fields(s) {
		n, ok := number(field)
		if !ok {
			return 0, api.ErrForm
		}
		numbers[k] = n
	}
	var l parts
	for k, n := range numbers {
		if n > 255 {
			return 0, api.ErrRange
		}
		l[k] = byte(n)
	}
	return join(l), api.OK
}

// fields cuts s at its first three points. With fewer of them the last fields
// are empty, with more the last one has a point: neither is a number.
func fields(s string) [4]string {
	var l [4]string
	last := len(l) - 1
	for k := range last {
		l[k], s, _ = strings.Cut(s, ".")
	}
	l[last] = s
	return l
}

// number reads digits without a nought in front; false, if s is none.
func number(s string) (uint64, bool) {
	if s == "" || len(s) > maxDigits || s[0] == '0' && len(s) > 1 {
		return 0, false
	}
	var n uint64
	for k := range len(s) {
		if s[k] < '0' || s[k] > '9' {
			return 0, false
		}
		n = n*10 + uint64(s[k]-'0')
	}
	return n, true
}

// Text answers p's text, or nothing, if p may not be (P2.1).
func Text(p api.Prefix) string {
	if !May(p) {
		return ""
	}
	return IPText(p.IP) + "/" + strconv.Itoa(p.Bits)
}

// Parse reads a prefix's text (P2.1). Here too the form of all of it goes
// ahead of any size.
func Parse(s string) (api.Prefix, api.Errno) {
	address, count, _ := strings.Cut(s, "/")
	ip, e := ParseIP(address)
	bits, ok := number(count)
	if e == api.ErrForm || !ok {
		return api.Prefix{}, api.ErrForm
	}
	if e != api.OK || bits > width {
		return api.Prefix{}, api.ErrRange
	}
	p := api.Prefix{IP: ip, Bits: int(bits)}
	if !May(p) {
		return api.Prefix{}, api.ErrRange
	}
	return p, api.OK
}
