package number

import (
	"math"
	"strconv"
	"strings"

	"consulate/api"
)

// maxDigits is how many digits a row of them has at most.
const maxDigits = 10

// Text answers n's text (P4.1).
func Text(n api.AS) string { return strconv.FormatUint(uint64(n), 10) }

// Dotted answers n's dotted text (P4.1).
func Dotted(n api.AS) string {
	if !Wide(n) {
		return Text(n)
	}
	return Text(n>>16) + "." + Text(n&math.MaxUint16)
}

// Parse reads a number's text, dotted or not (P4.2).
func Parse(s string) (api.AS, api.Errno) {
	upper, lower, dotted := strings.Cut(s, ".")
	if dotted {
		return join(upper, lower)
	}
	n, ok := row(s)
	if !ok {
		return 0, api.ErrForm
	}
	if n > math.MaxUint32 {
		return 0, api.ErrRange
	}
	return api.AS(n), api.OK
}

// join reads the two sides of a point. The form of both goes ahead of the size
// of any.
func join(upper, lower string) (api.AS, api.Errno) {
	high, highOK := row(upper)
	low, lowOK := row(lower)
	if !highOK || !lowOK {
		return 0, api.ErrForm
	}
	if max(high, low) > math.MaxUint16 {
		return 0, api.ErrRange
	}
	return api.AS(high<<16 | low), api.OK
}

// row reads a row of digits without a nought in front; false, if s is none.
func row(s string) (uint64, bool) {
	if len(s) > maxDigits || len(s) > 1 && s[0] == '0' {
		return 0, false
	}
	n, err := strconv.ParseUint(s, 10, 64)
	return n, err == nil
}
