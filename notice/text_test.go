package notice_test

import (
	"fmt"
	"regexp"
	"strconv"
	"strings"
	"testing"

	"consulate/api"
	"consulate/notice"
)

// words has what codes are called.
func words() []string { return []string{"", "head", "open", "update", "hold", "state", "cease"} }

// modelText is a fault's text.
func modelText(f api.Fault) string {
	if l := words(); f.Code > 0 && int(f.Code) < len(l) {
		return fmt.Sprintf("%s/%d", l[f.Code], f.Sub)
	}
	return fmt.Sprintf("%d/%d", f.Code, f.Sub)
}

// pattern is what a fault's text looks like, whatever the numbers are.
var pattern = regexp.MustCompile(`^(head|open|update|hold|state|cease|0|[1-9][0-9]{0,9})/(0|[1-9][0-9]{0,9})\z`)

// modelParse is the fault of a text.
func modelParse(s string) (api.Fault, api.Errno) {
	parts := pattern.FindStringSubmatch(s)
	if parts == nil {
		return api.Fault{}, api.ErrForm
	}
	code, err := strconv.Atoi(parts[1])
	for k, word := range words() {
		if err != nil && word == parts[1] {
			code = k
		}
	}
	sub, _ := strconv.Atoi(parts[2])
	if code > 255 || sub > 255 {
		return api.Fault{}, api.ErrRange
	}
	return api.Fault{Code: byte(code), Sub: byte(sub)}, api.OK
}

func wantParse(t *testing.T, s string, f api.Fault, e api.Errno) {
	t.Helper()
	if got, gotE := notice.Parse(s); got != f || gotE != e {
		t.Errorf("Parse(%.60q): %v, %d, want %v, %d", s, got, gotE, f, e)
	}
}

func TestTextExamples(t *testing.T) {
	for s, f := range map[string]api.Fault{
		"open/6": {Code: 2, Sub: 6}, "9/1": {Code: 9, Sub: 1}, "cease/2": {Code: 6, Sub: 2}, "head/0": {Code: 1},
		"update/10": {Code: 3, Sub: 10}, "hold/0": {Code: 4}, "state/255": {Code: 5, Sub: 255}, "0/0": {}, "0/7": {Sub: 7},
		"7/0": {Code: 7}, "255/255": {Code: 255, Sub: 255}, "100/20": {Code: 100, Sub: 20},
	} {
		if got := notice.Text(f); got != s {
			t.Errorf("Text(%v): %q, want %q", f, got, s)
		}
		wantParse(t, s, f, api.OK)
	}
}

// TestTextsOfAllFaults: each is parsed as the fault (P12.5), and so are the
// digits of a code that has a name.
func TestTextsOfAllFaults(t *testing.T) {
	for code := range 256 {
		for sub := range 256 {
			f := api.Fault{Code: byte(code), Sub: byte(sub)}
			s := notice.Text(f)
			if s != modelText(f) {
				t.Fatalf("Text(%v): %q, want %q", f, s, modelText(f))
			}
			for _, text := range []string{s, fmt.Sprintf("%d/%d", code, sub)} {
				if got, e := notice.Parse(text); got != f || e != api.OK {
					t.Fatalf("Parse(%q): %v, %d, want %v", text, got, e, f)
				}
			}
		}
	}
}

func TestParseWrongForms(t *testing.T) {
	for _, s := range []string{
		"", "/", "open", "open/", "/6", "6", "open6", "open 6", "open//6", "open/6/", "/open/6", "open/6/7", "2/6/7",
		"Open/6", "OPEN/6", "opens/6", "ope/6", " open/6", "open /6", "open/ 6", "open/6 ", "open/6\n", "\topen/6",
		"open/06", "02/6", "00/0", "0/00", "2/006", "open/+6", "open/-6", "+2/6", "-2/6", "open/0x6", "0x2/6", "2/1_0",
		"2.0/6", "2/6.0", "open/open", "2/open", "6/open", "open/head", "head|open/6", "none/0", "notice/1", "rest/1",
		"open\\6", "open-6", "open:6", "open,6", "é/1", "1/é", "²/1", "1/²", "١/1", "1/١", "open/\x00", "\x00/1", "\xff/1", "1/\xff",
		"12345678901/1", "1/12345678901", "00000000001/1", "1/00000000001", "open/99999999999", "1/18446744073709551616",
		strings.Repeat("1", 5000) + "/1", "1/" + strings.Repeat("1", 5000), strings.Repeat("/", 5000),
		// What is above 255 is not asked, if the other side is no number.
		"256/", "256/x", "256/01", "x/256", "01/256", "open/", "256/256/", "300/12345678901", "12345678901/300",
	} {
		wantParse(t, s, api.Fault{}, api.ErrForm)
	}
}

func TestParseNumbersThatAreTooLarge(t *testing.T) {
	for _, n := range []int{256, 257, 511, 512, 999, 1000, 65535, 65536, 65537, 4294967295, 4294967296, 4294967297, 4294967298, 9999999999} {
		wantParse(t, fmt.Sprint("1/", n), api.Fault{}, api.ErrRange)
		wantParse(t, fmt.Sprint("cease/", n), api.Fault{}, api.ErrRange)
		wantParse(t, fmt.Sprint(n, "/1"), api.Fault{}, api.ErrRange)
		wantParse(t, fmt.Sprint(n, "/", n), api.Fault{}, api.ErrRange)
		wantParse(t, fmt.Sprint("0", n, "/1"), api.Fault{}, api.ErrForm)
	}
	wantParse(t, "255/255", api.Fault{Code: 255, Sub: 255}, api.OK)
}

// TestParseNearRightTexts: right texts with a piece cut out, put in, or another
// one instead, once and twice.
func TestParseNearRightTexts(t *testing.T) {
	pieces := []string{"", "/", "0", "1", "9", "255", "256", "open", "e", " ", "-", "+", "_", "é"}
	var edits func(s string, deep int)
	edits = func(s string, deep int) {
		f, e := modelParse(s)
		wantParse(t, s, f, e)
		if deep == 0 {
			return
		}
		for at := range len(s) + 1 {
			for _, piece := range pieces {
				edits(s[:at]+piece+s[at:], deep-1)
				if at < len(s) {
					edits(s[:at]+piece+s[at+1:], deep-1)
				}
			}
		}
	}
	for _, s := range []string{"open/6", "9/1", "cease/20", "0/0"} {
		edits(s, 2)
	}
}

// TestParseSmallTexts: all of up to five of some bytes.
func TestParseSmallTexts(t *testing.T) {
	var grow func(s string)
	grow = func(s string) {
		f, e := modelParse(s)
		wantParse(t, s, f, e)
		if len(s) == 5 {
			return
		}
		for _, c := range "/0125h" {
			grow(s + string(c))
		}
	}
	grow("")
}

func TestUnicast(t *testing.T) {
	for family := range 1 << 16 {
		for _, sub := range []byte{0, 1, 2, 128, 255} {
			r := notice.Refresh{Family: uint16(family), Sub: sub}
			if got := notice.Unicast(r); got != (family == 1 && sub == 1) {
				t.Fatalf("Unicast(%v): %v", r, got)
			}
		}
	}
}
