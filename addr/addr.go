// Package addr is layer 2: addresses and prefixes. See shared/doc/02-addr.md.
package addr

import (
	"strconv"
	"strings"

	"bypath/api"
	"bypath/num"
)

// Of an address: how many bits, and bytes, it has, and the greatest byte.
const (
	bits     = 32
	size     = 4
	greatest = 255
)

// Check refuses a p that may not be: Make gives back just those that may be as they are.
func Check(p api.Prefix) api.Errno {
	if p != Make(p.Addr, p.Len) {
		return api.ErrPrefix
	}
	return api.OK
}

// Make is the prefix of n bits that holds addr.
func Make(addr uint32, n int) api.Prefix {
	n = min(max(n, 0), bits)
	return api.Prefix{Addr: addr & num.Mask(n), Len: n}
}

// Holds tells whether p may be and holds addr. What Make gives may be, so one that may not be is never the same.
func Holds(p api.Prefix, addr uint32) bool { return p == Make(addr, p.Len) }

// Within tells whether both may be, and p holds q.
func Within(p, q api.Prefix) bool {
	return Check(q) == api.OK && q.Len >= p.Len && Holds(p, q.Addr)
}

// Compare is the order of p and q: -1, 0, 1.
func Compare(p, q api.Prefix) int {
	switch {
	case p == q:
		return 0
	case p.Addr < q.Addr, p.Addr == q.Addr && p.Len < q.Len:
		return -1
	}
	return 1
}

// Bit is the i-th bit of addr, from the highest, 0, on.
func Bit(addr uint32, i int) int {
	if i < 0 || i >= bits {
		return 0
	}
	return int(addr >> (bits - 1 - i) & 1)
}

// Show is the text of p, or ? of one that may not be.
func Show(p api.Prefix) string {
	if Check(p) != api.OK {
		return "?"
	}
	return Dotted(p.Addr) + "/" + strconv.Itoa(p.Len)
}

// Parse reads what Show tells.
func Parse(s string) (api.Prefix, api.Errno) {
	dotted, digits, _ := strings.Cut(s, "/")
	addr, e := Address(dotted)
	if e != api.OK {
		return api.Prefix{}, api.ErrPrefix
	}
	n, ok := number(digits, bits)
	p := api.Prefix{Addr: addr, Len: n}
	if !ok || Check(p) != api.OK {
		return api.Prefix{}, api.ErrPrefix
	}
	return p, api.OK
}

// Dotted is the text of an address.
func Dotted(addr uint32) string {
	b := apart(addr)
	s := strconv.Itoa(int(b[0]))
	for _, x := range b[1:] {
		s += "." + strconv.Itoa(int(x))
	}
	return s
}

// Address reads what Dotted tells.
func Address(s string) (uint32, api.Errno) {
	var b [size]byte
	for i := range b {
		// Behind the last byte nothing may follow, behind the others a point must.
		digits, rest, point := strings.Cut(s, ".")
		n, ok := number(digits, greatest)
		if !ok || point != (i < size-1) {
			return 0, api.ErrPrefix
		}
		b[i] = byte(n)
		s = rest
	}
	return together(b), api.OK
}

// number reads digits without a 0 ahead, up to most. It stops beyond that, so that no text is too long for an int.
func number(s string, most int) (int, bool) {
	if s == "" || s[0] == '0' && len(s) > 1 {
		return 0, false
	}
	n := 0
	for i := 0; i < len(s); i++ {
		if s[i] < '0' || s[i] > '9' {
			return 0, false
		}
		n = 10*n + int(s[i]-'0')
		if n > most {
			return 0, false
		}
	}
	return n, true
}

// Put gives the bytes of p.
func Put(p api.Prefix) ([]byte, api.Errno) {
	if e := Check(p); e != api.OK {
		return nil, e
	}
	four := apart(p.Addr)
	b := make([]byte, 1+bytesOf(p.Len))
	b[0] = byte(p.Len)
	copy(b[1:], four[:])
	return b, api.OK
}

// Get reads a prefix that b begins with, and how many bytes it has there.
func Get(b []byte) (api.Prefix, int, api.Errno) {
	if len(b) == 0 || b[0] > bits {
		return api.Prefix{}, 0, api.ErrPrefix
	}
	n := int(b[0])
	end := 1 + bytesOf(n)
	if len(b) < end {
		return api.Prefix{}, 0, api.ErrPrefix
	}
	var four [size]byte
	copy(four[:], b[1:end])
	return Make(together(four), n), end, api.OK
}

// bytesOf is how many bytes hold n bits.
func bytesOf(n int) int { return (n + 7) / 8 }

// apart gives an address's bytes.
func apart(addr uint32) [size]byte {
	var four [size]byte
	b, _ := num.Put(int(addr), size)
	copy(four[:], b)
	return four
}

// together is the address whose bytes four are.
func together(four [size]byte) uint32 {
	n, _ := num.Get(four[:])
	return uint32(n)
}
