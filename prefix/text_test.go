package prefix_test

import (
	"fmt"
	"math"
	"regexp"
	"strconv"
	"strings"
	"testing"

	"consulate/api"
	"consulate/prefix"
)

func wantIP(t *testing.T, s string, ip api.IP, e api.Errno) {
	t.Helper()
	if gotIP, gotE := prefix.ParseIP(s); gotIP != ip || gotE != e {
		t.Errorf("ParseIP(%.60q): %#x, %d, want %#x, %d", s, gotIP, gotE, ip, e)
	}
}

func wantPrefix(t *testing.T, s string, p api.Prefix, e api.Errno) {
	t.Helper()
	if gotP, gotE := prefix.Parse(s); gotP != p || gotE != e {
		t.Errorf("Parse(%.60q): %v, %d, want %v, %d", s, gotP, gotE, p, e)
	}
}

func TestIPText(t *testing.T) {
	for ip, want := range map[api.IP]string{
		0:          "0.0.0.0",
		0xffffffff: "255.255.255.255",
		0x0a010203: "10.1.2.3",
		0x80000000: "128.0.0.0",
		1:          "0.0.0.1",
		0x00640900: "0.100.9.0",
	} {
		if got := prefix.IPText(ip); got != want {
			t.Errorf("IPText(%#x): %q, want %q", ip, got, want)
		}
		wantIP(t, want, ip, api.OK)
	}
}

// TestEachNumberOfAnAddress has every byte at every place, there and back.
func TestEachNumberOfAnAddress(t *testing.T) {
	for place := range 4 {
		for n := range 256 {
			row := []string{"7", "8", "9", "11"}
			row[place] = strconv.Itoa(n)
			shift := 24 - 8*place
			ip := api.IP(0x0708090b)&^(0xff<<shift) | api.IP(n)<<shift
			s := strings.Join(row, ".")
			wantIP(t, s, ip, api.OK)
			if got := prefix.IPText(ip); got != s {
				t.Errorf("IPText(%#x): %q, want %q", ip, got, s)
			}
		}
	}
}

// atEachPlace puts n at each place of an address.
func atEachPlace(n string) []string {
	return []string{n + ".1.2.3", "1." + n + ".2.3", "1.2." + n + ".3", "1.2.3." + n}
}

func TestParseIPRange(t *testing.T) {
	for _, n := range []string{
		"256", "257", "260", "300", "511", "512", "999", "1000", "65535", "65536", "65537",
		"2147483648", "4294967295", "4294967296", "4294967297", "9999999999",
	} {
		for _, s := range atEachPlace(n) {
			wantIP(t, s, 0, api.ErrRange)
			wantPrefix(t, s+"/32", api.Prefix{}, api.ErrRange)
		}
	}
	wantIP(t, "256.256.256.256", 0, api.ErrRange)
}

func TestParseIPForm(t *testing.T) {
	noNumbers := []string{
		"", " ", "00", "01", "001", "000", "0255", "0256", "+1", "-1", "-0", "1 ", " 1", "1\n", "1\x00",
		"a", "1a", "a1", "0x1", "1e1", "1_0", "1,0", "१", "１", "²", "\xff", "/", ":",
		"10000000000", "99999999999", "18446744073709551617", "00000000001", "00000000000",
		strings.Repeat("9", 1000), strings.Repeat("0", 1000),
	}
	for _, n := range noNumbers {
		for _, s := range atEachPlace(n) {
			wantIP(t, s, 0, api.ErrForm)
			wantPrefix(t, s+"/32", api.Prefix{}, api.ErrForm)
		}
		// the form of any goes ahead of the size of another
		wantIP(t, "256.256.256."+n, 0, api.ErrForm)
		wantIP(t, n+".256.256.256", 0, api.ErrForm)
	}
	for _, s := range []string{
		"", ".", "..", "...", "....", "1", "1.2", "1.2.3", "1.2.3.", ".1.2.3", "1..2.3", "1.2.3.4.", ".1.2.3.4",
		"1.2.3.4.5", "1.2.3.4/", "1.2.3.4//8", "1.2.3.4 ", " 1.2.3.4", "1,2,3,4", "1.2.3:4", "1-2-3-4",
		"256", "256.1.2", "256.1.2.3.4", "256.1.2.3.", "256..1.2", "localhost", "::1", "16909060",
		strings.Repeat(".", 100000), strings.Repeat("1.", 100000),
	} {
		wantIP(t, s, 0, api.ErrForm)
		wantPrefix(t, s, api.Prefix{}, api.ErrForm)
	}
	wantIP(t, "1.2.3.4/8", 0, api.ErrForm)
	wantIP(t, "1.2.3.4/32", 0, api.ErrForm)
}

func TestOf(t *testing.T) {
	const ip = 0xfedcba98
	for _, c := range []struct {
		bits int
		want api.Prefix
	}{
		{32, api.Prefix{IP: 0xfedcba98, Bits: 32}},
		{29, api.Prefix{IP: 0xfedcba98, Bits: 29}},
		{28, api.Prefix{IP: 0xfedcba90, Bits: 28}},
		{24, api.Prefix{IP: 0xfedcba00, Bits: 24}},
		{15, api.Prefix{IP: 0xfedc0000, Bits: 15}},
		{8, api.Prefix{IP: 0xfe000000, Bits: 8}},
		{7, api.Prefix{IP: 0xfe000000, Bits: 7}},
		{1, api.Prefix{IP: 0x80000000, Bits: 1}},
		{0, api.Prefix{}},
		{-1, api.Prefix{}},
		{-32, api.Prefix{}},
		{math.MinInt, api.Prefix{}},
		{33, api.Prefix{IP: ip, Bits: 32}},
		{64, api.Prefix{IP: ip, Bits: 32}},
		{256, api.Prefix{IP: ip, Bits: 32}},
		{math.MaxInt, api.Prefix{IP: ip, Bits: 32}},
	} {
		if got := prefix.Of(ip, c.bits); got != c.want {
			t.Errorf("Of(%d): %v, want %v", c.bits, got, c.want)
		}
	}
	for bits := range 33 {
		got := prefix.Of(math.MaxUint32, bits)
		want := api.Prefix{IP: api.IP(uint64(math.MaxUint32) << (32 - bits)), Bits: bits}
		if got != want || !prefix.May(got) {
			t.Errorf("Of all ones, %d bits: %v, want %v", bits, got, want)
		}
	}
}

// mayNot has prefixes that may not be.
func mayNot() []api.Prefix {
	l := []api.Prefix{
		{Bits: -1}, {Bits: 33}, {Bits: 64}, {Bits: 255}, {Bits: 256}, {Bits: 1 << 32}, {Bits: math.MaxInt},
		{Bits: math.MinInt}, {IP: math.MaxUint32, Bits: 33}, {IP: math.MaxUint32, Bits: 288},
		{IP: 0x0a000000, Bits: -8}, {IP: 0x0a000001, Bits: 8}, {IP: 0x80000000, Bits: 0}, {IP: 1, Bits: 0},
	}
	for bits := range 32 {
		l = append(l, api.Prefix{IP: 1, Bits: bits}, api.Prefix{IP: 1 << (31 - bits), Bits: bits})
	}
	return l
}

func TestMay(t *testing.T) {
	for _, p := range mayNot() {
		if prefix.May(p) {
			t.Errorf("%v may not be", p)
		}
		if s := prefix.Text(p); s != "" {
			t.Errorf("%v has no text, but %q", p, s)
		}
	}
	for bits := range 33 {
		for _, p := range []api.Prefix{{Bits: bits}, {IP: api.IP(uint64(1) << 32 >> bits), Bits: bits}} {
			if !prefix.May(p) {
				t.Errorf("%v may be", p)
			}
		}
	}
}

func TestTextAndParse(t *testing.T) {
	for s, p := range map[string]api.Prefix{
		"0.0.0.0/0":          {},
		"0.0.0.0/32":         {Bits: 32},
		"255.255.255.255/32": {IP: math.MaxUint32, Bits: 32},
		"10.0.0.0/8":         {IP: 0x0a000000, Bits: 8},
		"10.0.0.0/7":         {IP: 0x0a000000, Bits: 7},
		"128.0.0.0/1":        {IP: 0x80000000, Bits: 1},
		"172.16.5.128/25":    {IP: 0xac100580, Bits: 25},
		"192.0.2.10/31":      {IP: 0xc000020a, Bits: 31},
	} {
		wantPrefix(t, s, p, api.OK)
		if got := prefix.Text(p); got != s {
			t.Errorf("Text(%v): %q, want %q", p, got, s)
		}
	}
}

func TestParseRange(t *testing.T) {
	for _, s := range []string{
		"10.0.0.1/8", "10.0.0.0/33", "0.0.0.0/33", "0.0.0.0/34", "0.0.0.0/64", "0.0.0.0/256", "0.0.0.0/264",
		"0.0.0.0/4294967296", "0.0.0.0/4294967328", "0.0.0.0/9999999999", "128.0.0.0/0", "0.0.0.1/31", "0.0.0.1/0",
		"10.0.0.0/6", "256.0.0.0/8", "256.0.0.0/33", "0.0.0.256/0", "9999999999.0.0.0/9999999999",
	} {
		wantPrefix(t, s, api.Prefix{}, api.ErrRange)
	}
	for _, p := range mayNot() {
		if p.Bits >= 0 && p.Bits <= 9999999999 {
			wantPrefix(t, prefix.IPText(p.IP)+"/"+strconv.Itoa(p.Bits), api.Prefix{}, api.ErrRange)
		}
	}
}

func TestParseForm(t *testing.T) {
	for _, s := range []string{
		"", "/", "/8", "8", "//", "10.0.0.0", "10.0.0.0/", "10.0.0/8", "10.0.0.0.0/8", "10.0.0.0//8", "10.0.0.0/8/",
		"10.0.0.0/8/8", "10.0.0.0/08", "0.0.0.0/00", "0.0.0.0/000", "10.0.0.0/032", "10.0.0.0/033", "10.0.0.0/+8",
		"10.0.0.0/-8", "0.0.0.0/-0", "10.0.0.0/8 ", "10.0.0.0/ 8", "10.0.0.0 /8", " 10.0.0.0/8", "10.0.0.0/8a",
		"10.0.0.0/a", "10.0.0.0/0x8", "10.0.0.0/8.0", "10.0.0.0/8.", "10.0.0.0.8", "10.0.0.0\\8", "10.0.0.0/८",
		"10.0.0.0/255.0.0.0", "8/10.0.0.0", "010.0.0.0/8", "0.0.0.0/10000000000", "0.0.0.0/18446744073709551616",
		"0.0.0.0/18446744073709551624", "0.0.0.0/00000000008", "0.0.0.0/" + strings.Repeat("3", 1000),
		// a number out of range, and something wrong in form: form goes ahead
		"256.0.0.0", "256.0.0.0/", "256.0.0.0/08", "256.0.0.0/x", "256.0.0.0/8/8", "256.0.0/8", "256.0.0.00/8",
		"10.0.0.1/08", "10.0.0/33", "01.0.0.0/33", "256.0.0.0/10000000000", "10000000000.0.0.0/33",
	} {
		wantPrefix(t, s, api.Prefix{}, api.ErrForm)
	}
}

const digits = `(0|[1-9][0-9]{0,9})`

// oracle is the chapter's words on texts, told by a pattern and by fmt.
func oracle(prefixes *regexp.Regexp, s string) (api.Prefix, api.Errno) {
	m := prefixes.FindStringSubmatch(s)
	if m == nil {
		return api.Prefix{}, api.ErrForm
	}
	var n [5]uint64
	for k := range n {
		fmt.Sscan(m[k+1], &n[k])
	}
	if max(n[0], n[1], n[2], n[3]) > 255 || n[4] > 32 {
		return api.Prefix{}, api.ErrRange
	}
	ip := n[0]<<24 | n[1]<<16 | n[2]<<8 | n[3]
	if ip%(1<<(32-n[4])) != 0 {
		return api.Prefix{}, api.ErrRange
	}
	return api.Prefix{IP: api.IP(ip), Bits: int(n[4])}, api.OK
}

// edits has s with each one byte changed, put in or taken out.
func edits(s string) []string {
	l := []string{s}
	for k := range len(s) + 1 {
		for _, c := range []string{"0", "1", "5", "9", ".", "/", "-", " ", "a", ""} {
			l = append(l, s[:k]+c+s[k:])
			if k < len(s) {
				l = append(l, s[:k]+c+s[k+1:])
			}
		}
	}
	return l
}

// TestTextsAroundTrueOnes plays texts that are up to two edits away from ones
// that are right, or nearly so.
func TestTextsAroundTrueOnes(t *testing.T) {
	prefixes := regexp.MustCompile(`^` + digits + `\.` + digits + `\.` + digits + `\.` + digits + `/` + digits + `$`)
	for _, s := range []string{"10.0.0.0/8", "0.0.0.0/0", "255.9.0.24/29", "25.128.1.0/32", "1.1.1.1/3", "4294967295.0.0.0/4294967295"} {
		for _, once := range edits(s) {
			for _, twice := range edits(once) {
				p, e := oracle(prefixes, twice)
				wantPrefix(t, twice, p, e)
				ip, ipE := oracle(prefixes, twice+"/32")
				wantIP(t, twice, ip.IP, ipE)
			}
			if t.Failed() {
				return
			}
			p, e := oracle(prefixes, once)
			address, _, _ := strings.Cut(once, "/")
			ip, ipE := oracle(prefixes, address+"/32")
			wantPrefix(t, once, p, e)
			wantIP(t, address, ip.IP, ipE)
		}
	}
}
