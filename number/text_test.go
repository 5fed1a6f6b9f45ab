package number_test

import (
	"fmt"
	"math"
	"regexp"
	"strings"
	"testing"

	"consulate/api"
	"consulate/number"
)

func wantParse(t *testing.T, s string, n api.AS, e api.Errno) {
	t.Helper()
	if gotN, gotE := number.Parse(s); gotN != n || gotE != e {
		t.Errorf("Parse(%.60q): %d, %d, want %d, %d", s, gotN, gotE, n, e)
	}
}

func TestTexts(t *testing.T) {
	for _, c := range []struct {
		n            api.AS
		text, dotted string
	}{
		{0, "0", "0"},
		{1, "1", "1"},
		{10, "10", "10"},
		{23456, "23456", "23456"},
		{65535, "65535", "65535"},
		{65536, "65536", "1.0"},
		{65537, "65537", "1.1"},
		{65546, "65546", "1.10"},
		{131071, "131071", "1.65535"},
		{131072, "131072", "2.0"},
		{655360, "655360", "10.0"},
		{655370, "655370", "10.10"},
		{1 << 31, "2147483648", "32768.0"},
		{4200000000, "4200000000", "64086.59904"},
		{4294901760, "4294901760", "65535.0"},
		{math.MaxUint32, "4294967295", "65535.65535"},
	} {
		if got := number.Text(c.n); got != c.text {
			t.Errorf("Text(%d): %q, want %q", c.n, got, c.text)
		}
		if got := number.Dotted(c.n); got != c.dotted {
			t.Errorf("Dotted(%d): %q, want %q", c.n, got, c.dotted)
		}
		wantParse(t, c.text, c.n, api.OK)
		wantParse(t, c.dotted, c.n, api.OK)
	}
}

// TestTextsThereAndBack: P4.3.
func TestTextsThereAndBack(t *testing.T) {
	for _, n := range sample() {
		text, dotted := number.Text(n), number.Dotted(n)
		if text != fmt.Sprint(uint32(n)) {
			t.Fatalf("Text(%d): %q", n, text)
		}
		want := text
		if n > 65535 {
			want = fmt.Sprintf("%d.%d", n/65536, n%65536)
		}
		if dotted != want {
			t.Fatalf("Dotted(%d): %q, want %q", n, dotted, want)
		}
		wantParse(t, text, n, api.OK)
		wantParse(t, dotted, n, api.OK)
		if t.Failed() {
			return
		}
	}
}

// TestParseReadsAPointBehindNought: what no call tells is read, too.
func TestParseReadsAPointBehindNought(t *testing.T) {
	for n := range api.AS(1 << 16) {
		wantParse(t, fmt.Sprintf("0.%d", n), n, api.OK)
	}
}

func TestParseRange(t *testing.T) {
	large := []string{
		"65536", "65537", "70000", "99999", "100000", "131072", "4294967295", "4294967296", "4295032832",
		"5000000000", "8589934592", "9999999999",
	}
	for _, n := range large {
		for _, s := range []string{n + ".0", n + ".1", n + ".65535", "0." + n, "1." + n, "65535." + n, n + "." + n} {
			wantParse(t, s, 0, api.ErrRange)
		}
	}
	for _, s := range []string{
		"4294967296", "4294967297", "4294967305", "4294967300", "4295032832", "5000000000", "8589934591", "8589934592",
		"9999999999",
	} {
		wantParse(t, s, 0, api.ErrRange)
	}
}

// noRows has texts that are no row of digits.
func noRows() []string {
	return []string{
		"", " ", "00", "01", "007", "000", "065535", "065536", "0000000001", "0000000000", "+1", "-1", "-0", "+0",
		" 1", "1 ", "1\n", "\t1", "1\x00", "a", "1a", "a1", "0x1", "0b1", "0o7", "1e1", "1_0", "_1", "1,0", "1-0", "१",
		"１", "²", "\xff", "/", ":", "AS1", "10000000000", "12345678901", "99999999999", "18446744073709551616",
		"18446744073709551617", "00000000001", "00000000000", strings.Repeat("9", 1000), strings.Repeat("0", 1000),
	}
}

func TestParseForm(t *testing.T) {
	for _, s := range noRows() {
		wantParse(t, s, 0, api.ErrForm)
		for _, other := range []string{"0", "1", "65535"} {
			wantParse(t, s+"."+other, 0, api.ErrForm)
			wantParse(t, other+"."+s, 0, api.ErrForm)
		}
		wantParse(t, s+"."+s, 0, api.ErrForm)
	}
	for _, s := range []string{
		".", "..", "...", "1.", ".1", "1..2", "1.2.", ".1.2", "1.2.3", "1.2.3.4", "0.0.0", "1:2", "1/2", "1 .2", "1. 2",
		"1.-2", "1.+2", "1.0x2", "1。2",
		strings.Repeat(".", 100000), strings.Repeat("1.", 100000),
	} {
		wantParse(t, s, 0, api.ErrForm)
		wantParse(t, s+".", 0, api.ErrForm)
		wantParse(t, "."+s, 0, api.ErrForm)
	}
}

// TestParseFormGoesAheadOfRange: a side that is too great is of no weight, if
// something is wrong in form.
func TestParseFormGoesAheadOfRange(t *testing.T) {
	for _, s := range noRows() {
		for _, large := range []string{"65536", "4294967296", "9999999999"} {
			wantParse(t, s+"."+large, 0, api.ErrForm)
			wantParse(t, large+"."+s, 0, api.ErrForm)
		}
	}
	for _, s := range []string{"65536.0.0", "0.65536.0", "4294967296.", ".4294967296", "9999999999.9999999999.9999999999"} {
		wantParse(t, s, 0, api.ErrForm)
	}
}

// oracle is the chapter's words on texts, told by a pattern and by fmt.
func oracle(numbers *regexp.Regexp, s string) (api.AS, api.Errno) {
	m := numbers.FindStringSubmatch(s)
	if m == nil {
		return 0, api.ErrForm
	}
	var first, second uint64
	fmt.Sscan(m[1], &first)
	if m[2] == "" {
		if first > 4294967295 {
			return 0, api.ErrRange
		}
		return api.AS(first), api.OK
	}
	fmt.Sscan(m[3], &second)
	if first > 65535 || second > 65535 {
		return 0, api.ErrRange
	}
	return api.AS(first*65536 + second), api.OK
}

// edits has s with each one byte changed, put in or taken out.
func edits(s string) []string {
	l := []string{s}
	for k := range len(s) + 1 {
		for _, c := range []string{"0", "1", "5", "6", "9", ".", "-", " ", "a", ""} {
			l = append(l, s[:k]+c+s[k:])
			if k < len(s) {
				l = append(l, s[:k]+c+s[k+1:])
			}
		}
	}
	return l
}

// TestTextsAroundTrueOnes plays texts that are up to two edits away from ones
// that are right, or nearly so.
func TestTextsAroundTrueOnes(t *testing.T) {
	numbers := regexp.MustCompile(`^(0|[1-9][0-9]{0,9})(\.(0|[1-9][0-9]{0,9}))?$`)
	for _, s := range []string{"0", "65535", "65536", "4294967295", "1.10", "0.0", "65535.65535", "65535.65536", "4294967295.1"} {
		for _, once := range edits(s) {
			for _, twice := range edits(once) {
				n, e := oracle(numbers, twice)
				wantParse(t, twice, n, e)
			}
			if t.Failed() {
				return
			}
		}
	}
}
