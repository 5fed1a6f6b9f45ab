package prefix_test

import (
	"math"
	"slices"
	"testing"

	"consulate/api"
	"consulate/prefix"
)

// sample has prefixes of every number of bits along some addresses that part
// from each other early, late and in between.
func sample() []api.Prefix {
	var l []api.Prefix
	for _, ip := range []api.IP{0, 1, 0x0a010203, 0x0a0102ff, 0x7fffffff, 0x80000000, 0xfffffffe, math.MaxUint32} {
		for bits := range 33 {
			p := api.Prefix{IP: ip >> (32 - bits) << (32 - bits), Bits: bits}
			if !slices.Contains(l, p) {
				l = append(l, p)
			}
		}
	}
	return l
}

// span is a prefix's first and last address.
func span(p api.Prefix) (uint64, uint64) {
	return uint64(p.IP), uint64(p.IP) + 1<<(32-p.Bits) - 1
}

// within tells whether all addresses of q are ones of p.
func within(p, q api.Prefix) bool {
	first, last := span(p)
	from, to := span(q)
	return first <= from && to <= last
}

func sign(n int) int {
	switch {
	case n < 0:
		return -1
	case n > 0:
		return 1
	}
	return 0
}

func TestCompare(t *testing.T) {
	row := []api.Prefix{
		{IP: 0, Bits: math.MinInt}, {IP: 0, Bits: -1}, {IP: 0, Bits: 0}, {IP: 0, Bits: 1}, {IP: 0, Bits: 32},
		{IP: 0, Bits: 33}, {IP: 0, Bits: math.MaxInt}, {IP: 1, Bits: 0}, {IP: 1, Bits: 32},
		{IP: 0x0a000000, Bits: 8}, {IP: 0x0a000000, Bits: 9}, {IP: 0x0a000000, Bits: 16}, {IP: 0x0a000001, Bits: 8},
		{IP: 0x0a010000, Bits: 16}, {IP: 0x7fffffff, Bits: 32}, {IP: 0x80000000, Bits: 1}, {IP: 0x80000000, Bits: 2},
		{IP: 0xff000000, Bits: 8}, {IP: math.MaxUint32, Bits: math.MinInt}, {IP: math.MaxUint32, Bits: 32},
	}
	for i, p := range row {
		for k, q := range row {
			if got := sign(prefix.Compare(p, q)); got != sign(i-k) {
				t.Errorf("Compare(%v, %v): %d", p, q, got)
			}
		}
	}
}

func TestHas(t *testing.T) {
	for _, p := range sample() {
		first, last := span(p)
		for _, ip := range []uint64{first, last, (first + last) / 2} {
			if !prefix.Has(p, api.IP(ip)) {
				t.Errorf("%v has %#x", p, ip)
			}
		}
		if first > 0 && prefix.Has(p, api.IP(first-1)) {
			t.Errorf("%v has not the address ahead of it", p)
		}
		if last < math.MaxUint32 && prefix.Has(p, api.IP(last+1)) {
			t.Errorf("%v has not the address behind it", p)
		}
		for k := range p.Bits {
			if prefix.Has(p, p.IP^1<<(31-k)) {
				t.Errorf("%v has not an address with another bit %d", p, k)
			}
		}
	}
}

func TestContains(t *testing.T) {
	for _, c := range []struct {
		p, q api.Prefix
		want bool
	}{
		{api.Prefix{IP: 0x0a000000, Bits: 8}, api.Prefix{IP: 0x0a010000, Bits: 16}, true},
		{api.Prefix{IP: 0x0a010000, Bits: 16}, api.Prefix{IP: 0x0a000000, Bits: 8}, false},
		{api.Prefix{IP: 0x0a000000, Bits: 8}, api.Prefix{IP: 0x0a000000, Bits: 8}, true},
		{api.Prefix{IP: 0x0a000000, Bits: 8}, api.Prefix{IP: 0x0a000000, Bits: 7}, false},
		{api.Prefix{IP: 0x0a000000, Bits: 7}, api.Prefix{IP: 0x0a000000, Bits: 8}, true},
		{api.Prefix{IP: 0x0a000000, Bits: 8}, api.Prefix{IP: 0x0b000000, Bits: 8}, false},
		{api.Prefix{}, api.Prefix{}, true},
		{api.Prefix{}, api.Prefix{IP: math.MaxUint32, Bits: 32}, true},
		{api.Prefix{IP: math.MaxUint32, Bits: 32}, api.Prefix{}, false},
	} {
		if got := prefix.Contains(c.p, c.q); got != c.want {
			t.Errorf("Contains(%v, %v): %v", c.p, c.q, got)
		}
	}
}

// TestContainsWhatHasAllItsAddresses: P2.5.
func TestContainsWhatHasAllItsAddresses(t *testing.T) {
	l := sample()
	for _, p := range l {
		for _, q := range l {
			if got := prefix.Contains(p, q); got != within(p, q) {
				t.Fatalf("Contains(%v, %v): %v", p, q, got)
			}
			from, to := span(q)
			for _, ip := range []api.IP{api.IP(from), api.IP(to)} {
				both := prefix.Has(p, ip) && prefix.Has(q, ip)
				if both && !prefix.Contains(p, q) && !prefix.Contains(q, p) {
					t.Fatalf("%v and %v both have %#x, and neither contains the other", p, q, ip)
				}
			}
		}
	}
}

func TestWhatMayNotBeHasAndContainsNothing(t *testing.T) {
	all := append(sample(), mayNot()...)
	for _, p := range mayNot() {
		for _, ip := range []api.IP{0, 1, p.IP, 0x0a000001, 0x0a000000, 0x80000000, math.MaxUint32} {
			if prefix.Has(p, ip) {
				t.Errorf("%v has %#x", p, ip)
			}
		}
		for _, q := range all {
			if prefix.Contains(p, q) || prefix.Contains(q, p) {
				t.Fatalf("%v and %v: one contains the other", p, q)
			}
		}
	}
}

func TestBit(t *testing.T) {
	for _, ip := range []api.IP{0, 1, 2, 0x80000000, 0x0a010203, 0xfedcba98, math.MaxUint32} {
		var sum uint64
		for k := range 32 {
			sum *= 2
			if prefix.Bit(ip, k) {
				sum++
			}
		}
		if sum != uint64(ip) {
			t.Errorf("bits of %#x make %#x", ip, sum)
		}
		for _, k := range []int{-1, -2, -32, 32, 33, 63, 64, 1 << 32, math.MaxInt, math.MinInt} {
			if prefix.Bit(ip, k) {
				t.Errorf("Bit(%#x, %d)", ip, k)
			}
		}
	}
	if !prefix.Bit(0x80000000, 0) || prefix.Bit(0x80000000, 31) || !prefix.Bit(1, 31) || prefix.Bit(1, 0) {
		t.Error("the highest and the lowest bit")
	}
}
