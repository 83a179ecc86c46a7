package addr_test

import (
	"bytes"
	"math"
	"net/netip"
	"slices"
	"testing"

	"bypath/addr"
	"bypath/api"
)

// good are prefixes that may be, in order: at both ends, of all kinds of lengths, and some within others.
var good = []api.Prefix{
	{Addr: 0, Len: 0},
	{Addr: 0, Len: 1},
	{Addr: 0, Len: 32},
	{Addr: 1, Len: 32},
	{Addr: 10 << 24, Len: 8},
	{Addr: 10 << 24, Len: 9},
	{Addr: 10 << 24, Len: 32},
	{Addr: 0x0a010000, Len: 16},
	{Addr: 0x0a010200, Len: 24},
	{Addr: 0x0a010200, Len: 25},
	{Addr: 0x0a010280, Len: 25},
	{Addr: 0x0a800000, Len: 9},
	{Addr: 0x7ffffffe, Len: 31},
	{Addr: 0x80000000, Len: 1},
	{Addr: 0xac100000, Len: 12},
	{Addr: 0xc0a88000, Len: 17},
	{Addr: 0xfffffffe, Len: 31},
	{Addr: 0xffffffff, Len: 32},
}

// bad are prefixes that may not be.
var bad = []api.Prefix{
	{Addr: 0, Len: -1},
	{Addr: 0, Len: 33},
	{Addr: 0xffffffff, Len: 33},
	{Addr: 10 << 24, Len: 64},
	{Addr: 0, Len: math.MinInt},
	{Addr: 0, Len: math.MaxInt},
	{Addr: 0, Len: 256},
	{Addr: 1, Len: 0},
	{Addr: 1 << 31, Len: 0},
	{Addr: 0x0a000001, Len: 8},
	{Addr: 0x0a800000, Len: 8},
	{Addr: 1, Len: 31},
	{Addr: 0xffffffff, Len: 31},
}

// ends are the first and the last address of a prefix that may be.
func ends(p api.Prefix) (int, int) {
	return int(p.Addr), int(p.Addr) + 1<<(32-p.Len) - 1
}

// someAddresses are those about the ends of the good prefixes.
func someAddresses() []uint32 {
	var l []uint32
	for _, p := range good {
		first, last := ends(p)
		for d := -1; d <= 1; d++ {
			l = append(l, uint32(first+d), uint32(last+d))
		}
	}
	return l
}

// P2.1: bits behind the first Len, or another Len than 0 to 32, may not be.
func TestCheck(t *testing.T) {
	for _, p := range good {
		if e := addr.Check(p); e != api.OK {
			t.Error(p, e)
		}
	}
	for _, p := range bad {
		if e := addr.Check(p); e != api.ErrPrefix {
			t.Error(p, e)
		}
	}
	for n := 0; n <= 32; n++ { // the lowest bit that counts, and the highest that must be 0
		if n > 0 && addr.Check(api.Prefix{Addr: 1 << (32 - n), Len: n}) != api.OK {
			t.Error("bit that counts:", n)
		}
		if n < 32 && addr.Check(api.Prefix{Addr: 1 << (31 - n), Len: n}) != api.ErrPrefix {
			t.Error("bit behind:", n)
		}
	}
}

// P2.1: Make caps the length, and takes the bits behind it as 0.
func TestMake(t *testing.T) {
	for _, x := range []struct {
		addr uint32
		n    int
		want api.Prefix
	}{
		{0x0a010203, 8, api.Prefix{Addr: 10 << 24, Len: 8}},
		{0x0a010203, 31, api.Prefix{Addr: 0x0a010202, Len: 31}},
		{0x0a010203, 32, api.Prefix{Addr: 0x0a010203, Len: 32}},
		{0x0a010203, 33, api.Prefix{Addr: 0x0a010203, Len: 32}},
		{0x0a010203, math.MaxInt, api.Prefix{Addr: 0x0a010203, Len: 32}},
		{0xffffffff, 1, api.Prefix{Addr: 1 << 31, Len: 1}},
		{0xffffffff, 0, api.Prefix{}},
		{0xffffffff, -1, api.Prefix{}},
		{0xffffffff, math.MinInt, api.Prefix{}},
	} {
		if p := addr.Make(x.addr, x.n); p != x.want {
			t.Error(x.addr, x.n, p)
		}
	}
	for _, a := range someAddresses() {
		for n := -1; n <= 33; n++ {
			if p := addr.Make(a, n); addr.Check(p) != api.OK || !addr.Holds(p, a) {
				t.Error(a, n, p)
			}
		}
	}
}

// P2.1: a prefix holds just the addresses from its first to its last one; one that may not be holds none.
func TestHolds(t *testing.T) {
	for _, a := range someAddresses() {
		for _, p := range good {
			first, last := ends(p)
			if got, want := addr.Holds(p, a), first <= int(a) && int(a) <= last; got != want {
				t.Error(p, a, got)
			}
		}
		for _, p := range bad {
			if addr.Holds(p, a) {
				t.Error(p, a)
			}
		}
	}
	for _, p := range bad {
		if addr.Holds(p, p.Addr) {
			t.Error(p)
		}
	}
}

// P2.1: of two prefixes the first one is to hold the second one, and both may be.
func TestWithin(t *testing.T) {
	for _, p := range good {
		first, last := ends(p)
		for _, q := range good {
			from, to := ends(q)
			if got, want := addr.Within(p, q), first <= from && to <= last; got != want {
				t.Error(p, q, got)
			}
		}
		for _, q := range bad {
			if addr.Within(p, q) || addr.Within(q, p) {
				t.Error(p, q)
			}
		}
	}
	for _, p := range bad {
		if addr.Within(p, p) {
			t.Error(p)
		}
	}
}

// P2.1: the order is that of addresses, then of lengths, of prefixes that may not be too.
func TestCompare(t *testing.T) {
	for i, p := range good {
		for j, q := range good {
			want := 0
			if i < j {
				want = -1
			} else if i > j {
				want = 1
			}
			if got := addr.Compare(p, q); got != want {
				t.Error(p, q, got)
			}
		}
	}
	for _, x := range []struct{ p, q api.Prefix }{
		{api.Prefix{Len: math.MinInt}, api.Prefix{Len: math.MaxInt}},
		{api.Prefix{Addr: 5, Len: -2}, api.Prefix{Addr: 5, Len: -1}},
		{api.Prefix{Addr: 5, Len: 99}, api.Prefix{Addr: 6, Len: -99}},
		{api.Prefix{Addr: 1<<31 - 1, Len: 40}, api.Prefix{Addr: 1 << 31, Len: 0}},
	} {
		if addr.Compare(x.p, x.q) != -1 || addr.Compare(x.q, x.p) != 1 || addr.Compare(x.p, x.p) != 0 || addr.Compare(x.q, x.q) != 0 {
			t.Error(x)
		}
	}
}

// P2.1: bits are counted from the highest, 0, on.
func TestBit(t *testing.T) {
	for i := 0; i < 32; i++ {
		one := uint32(1) << (31 - i)
		for j := -2; j < 40; j++ {
			want := 0
			if j == i {
				want = 1
			}
			if got := addr.Bit(one, j); got != want {
				t.Error(i, j, got)
			}
		}
		if addr.Bit(^one, i) != 0 || addr.Bit(math.MaxUint32, i) != 1 {
			t.Error(i)
		}
	}
	for _, i := range []int{-1, 32, 33, 63, 64, math.MinInt, math.MaxInt} {
		if b := addr.Bit(math.MaxUint32, i); b != 0 {
			t.Error(i, b)
		}
	}
}

// P2.2: four bytes in digits, points between.
func TestDotted(t *testing.T) {
	for a, want := range map[uint32]string{0: "0.0.0.0", 0x0a010203: "10.1.2.3", 0xffffffff: "255.255.255.255", 0x640a0900: "100.10.9.0", 1: "0.0.0.1", 1 << 31: "128.0.0.0"} {
		if s := addr.Dotted(a); s != want {
			t.Error(a, s)
		}
	}
}

// wrongAddresses are texts of no address.
var wrongAddresses = []string{
	"", ".", "...", "....", "1", "1.2", "1.2.3", "1.2.3.", ".1.2.3", "1..2.3", "1.2.3.4.", ".1.2.3.4", "1.2.3.4.5", "1.2.3.4.5.6",
	"256.0.0.0", "0.256.0.0", "0.0.256.0", "0.0.0.256", "999.0.0.0", "1000.0.0.0", "0.0.0.18446744073709551616", "0.0.0.4294967296",
	"00.0.0.0", "01.2.3.4", "1.02.3.4", "1.2.03.4", "1.2.3.04", "1.2.3.00", "1.2.3.010",
	"+1.2.3.4", "-1.2.3.4", "-0.2.3.4", "1.2.3.+4", " 1.2.3.4", "1.2.3.4 ", "1. 2.3.4", "1.2.3.4\n", "\x001.2.3.4",
	"a.0.0.0", "0x1.2.3.4", "1.2.3.a", "1,2,3,4", "1.2.3:4", "1.2.3/4", "1_0.2.3.4", "1e1.2.3.4", "١.2.3.4", "1.2.3.\xff", "1.2.3.4\x00",
}

// P2.2: what is no such text is refused, and nothing is told of it.
func TestAddress(t *testing.T) {
	for s, want := range map[string]uint32{"0.0.0.0": 0, "10.1.2.3": 0x0a010203, "255.255.255.255": 0xffffffff, "100.10.9.0": 0x640a0900, "199.249.209.200": 0xc7f9d1c8} {
		if a, e := addr.Address(s); a != want || e != api.OK {
			t.Error(s, a, e)
		}
	}
	for _, s := range wrongAddresses {
		if a, e := addr.Address(s); a != 0 || e != api.ErrPrefix {
			t.Errorf("%q %d %d", s, a, e)
		}
	}
}

// P2.2: of a prefix that may not be there is but a sign.
func TestShow(t *testing.T) {
	for want, p := range map[string]api.Prefix{"0.0.0.0/0": {}, "10.0.0.0/8": {Addr: 10 << 24, Len: 8}, "172.16.0.0/12": {Addr: 0xac100000, Len: 12}, "255.255.255.255/32": {Addr: math.MaxUint32, Len: 32}} {
		if s := addr.Show(p); s != want {
			t.Error(p, s)
		}
	}
	for _, p := range bad {
		if s := addr.Show(p); s != "?" {
			t.Error(p, s)
		}
	}
}

// P2.2: a prefix's text is an address's, a stroke, and a length; and the prefix may be.
func TestParse(t *testing.T) {
	for s, want := range map[string]api.Prefix{"0.0.0.0/0": {}, "10.0.0.0/8": {Addr: 10 << 24, Len: 8}, "10.1.2.3/32": {Addr: 0x0a010203, Len: 32}, "128.0.0.0/1": {Addr: 1 << 31, Len: 1}} {
		if p, e := addr.Parse(s); p != want || e != api.OK {
			t.Error(s, p, e)
		}
	}
	wrong := []string{
		"", "/", "?", "/8", "10.0.0.0", "10.0.0.0/", "10.0.0.0/33", "10.0.0.0/-1", "10.0.0.0/+8", "10.0.0.0/08", "10.0.0.0/00", "0.0.0.0/00",
		"10.0.0.0/a", "10.0.0.0/8 ", "10.0.0.0/ 8", "10.0.0.0 /8", "10.0.0.0/8/", "10.0.0.0/8/8", "10.0.0.0//8", "/10.0.0.0/8", "10.0.0.0/8.0",
		"10.0.0.1/8", "10.128.0.0/8", "0.0.0.1/0", "255.255.255.255/31", "10.0.0.0/256", "10.0.0.0/264", "10.0.0.0/4294967304", "10.0.0.0/18446744073709551624",
		"8/10.0.0.0", "10.0.0.0\\8",
	}
	for _, s := range wrongAddresses {
		wrong = append(wrong, s+"/32")
	}
	for _, s := range wrong {
		if p, e := addr.Parse(s); p != (api.Prefix{}) || e != api.ErrPrefix {
			t.Errorf("%q %v %d", s, p, e)
		}
	}
}

// P2.3: the length, and as many bytes as it needs.
func TestPut(t *testing.T) {
	for n, want := range map[int][]byte{
		0: {0}, 1: {1, 128}, 7: {7, 0xfe}, 8: {8, 255}, 9: {9, 255, 128}, 16: {16, 255, 255}, 17: {17, 255, 255, 128},
		24: {24, 255, 255, 255}, 25: {25, 255, 255, 255, 128}, 31: {31, 255, 255, 255, 254}, 32: {32, 255, 255, 255, 255},
	} {
		if b, e := addr.Put(addr.Make(math.MaxUint32, n)); !bytes.Equal(b, want) || e != api.OK {
			t.Error(n, b, e)
		}
	}
	if b, e := addr.Put(addr.Make(0x0a010203, 8)); !bytes.Equal(b, []byte{8, 10}) || e != api.OK {
		t.Error(b, e)
	}
	if b, e := addr.Put(addr.Make(0x0a010203, 32)); !bytes.Equal(b, []byte{32, 10, 1, 2, 3}) || e != api.OK {
		t.Error(b, e)
	}
	for _, p := range bad {
		if b, e := addr.Put(p); len(b) != 0 || e != api.ErrPrefix {
			t.Error(p, b, e)
		}
	}
}

// P2.3: what is behind the prefix, and bits behind its length, count for nothing; what is cut off is refused.
func TestGet(t *testing.T) {
	for _, x := range []struct {
		b    []byte
		want api.Prefix
		n    int
	}{
		{[]byte{0}, api.Prefix{}, 1},
		{[]byte{0, 255, 255}, api.Prefix{}, 1},
		{[]byte{8, 10}, api.Prefix{Addr: 10 << 24, Len: 8}, 2},
		{[]byte{8, 10, 255, 255, 255, 255}, api.Prefix{Addr: 10 << 24, Len: 8}, 2},
		{[]byte{1, 255}, api.Prefix{Addr: 1 << 31, Len: 1}, 2},
		{[]byte{12, 0xac, 0x1f}, api.Prefix{Addr: 0xac100000, Len: 12}, 3},
		{[]byte{31, 255, 255, 255, 255}, api.Prefix{Addr: 0xfffffffe, Len: 31}, 5},
		{[]byte{32, 10, 1, 2, 3, 4}, api.Prefix{Addr: 0x0a010203, Len: 32}, 5},
	} {
		in := slices.Clone(x.b)
		if p, n, e := addr.Get(x.b); p != x.want || n != x.n || e != api.OK {
			t.Error(x.b, p, n, e)
		}
		if !bytes.Equal(in, x.b) {
			t.Error("what was handed in was changed:", x.b)
		}
	}
	whole := []byte{32, 1, 2, 3, 4}
	for _, b := range [][]byte{nil, {}, {33, 1, 2, 3, 4, 5}, {255, 1, 2, 3, 4, 5, 6, 7}, {1}, {8}, {9, 1}, {16, 1}, {17, 1, 2}, {25, 1, 2, 3}, {32, 1, 2, 3}, {32}, whole[:4]} {
		if p, n, e := addr.Get(b); p != (api.Prefix{}) || n != 0 || e != api.ErrPrefix {
			t.Error(b, p, n, e)
		}
	}
}

// P2.4: what is shown is parsed, what is put is got: of addresses and prefixes of all lengths; and it is shown as others show it.
func TestBackAgain(t *testing.T) {
	for _, a := range append(someAddresses(), 0x01020304, 0xa5a5a5a5, 0x5a5a5a5a) {
		s := addr.Dotted(a)
		if b, e := addr.Address(s); b != a || e != api.OK {
			t.Error(a, s, b, e)
		}
		if other := netip.AddrFrom4([4]byte{byte(a >> 24), byte(a >> 16), byte(a >> 8), byte(a)}).String(); s != other {
			t.Error(a, s, other)
		}
		for n := 0; n <= 32; n++ {
			p := addr.Make(a, n)
			if q, e := addr.Parse(addr.Show(p)); q != p || e != api.OK {
				t.Error(p, q, e)
			}
			b, e := addr.Put(p)
			if e != api.OK {
				t.Error(p, e)
			}
			if q, k, e := addr.Get(b); q != p || k != len(b) || e != api.OK {
				t.Error(p, q, k, e)
			}
			if q, k, e := addr.Get(append(b, 7, 7, 7, 7, 7)); q != p || k != len(b) || e != api.OK {
				t.Error(p, q, k, e)
			}
		}
	}
}

// P2.4: two prefixes of which neither holds the other have no address in common.
func TestApart(t *testing.T) {
	addresses := someAddresses()
	for _, p := range good {
		for _, q := range good {
			if addr.Within(p, q) || addr.Within(q, p) {
				continue
			}
			for _, a := range addresses {
				if addr.Holds(p, a) && addr.Holds(q, a) {
					t.Error(p, q, a)
				}
			}
		}
	}
}
