package notice

import (
	"math"
	"strconv"
	"strings"

	"consulate/api"
)

// names has what the codes from 1 on are called.
var names = [...]string{"head", "open", "update", "hold", "state", "cease"}

// maxDigits is how many digits a number may have at most, whatever its size.
const maxDigits = 10

// Text answers the fault's text (P12.3).
func Text(f api.Fault) string {
	return codeText(f.Code) + "/" + strconv.Itoa(int(f.Sub))
}

// codeText answers a code's name, or its digits, if it has none.
func codeText(code byte) string {
	if code >= 1 && int(code) <= len(names) {
		return names[code-1]
	}
	return strconv.Itoa(int(code))
}

// Parse answers the fault of a text (P12.3). A code that has a name may stand
// as digits, too.
func Parse(s string) (api.Fault, api.Errno) {
	// Without a slash nothing is right of it, which are no digits.
	left, right, _ := strings.Cut(s, "/")
	code, isCode := parseCode(left)
	sub, isSub := parseDigits(right)
	if !isCode || !isSub {
		return api.Fault{}, api.ErrForm
	}
	if code > math.MaxUint8 || sub > math.MaxUint8 {
		return api.Fault{}, api.ErrRange
	}
	return api.Fault{Code: byte(code), Sub: byte(sub)}, api.OK
}

// parseCode answers the number of a code's name or digits, if s is such.
func parseCode(s string) (uint64, bool) {
	for i, name := range names {
		if s == name {
			return uint64(i) + 1, true
		}
	}
	return parseDigits(s)
}

// parseDigits answers the number of digits, if s is such.
func parseDigits(s string) (uint64, bool) {
	if len(s) > maxDigits || len(s) > 1 && s[0] == '0' {
		return 0, false
	}
	n, err := strconv.ParseUint(s, 10, 64)
	return n, err == nil
}
