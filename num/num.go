// Package num is layer 1: numbers as bytes, and numbers that are capped. See shared/doc/01-num.md.
package num

import "bypath/api"

// widest is how many bytes a number has at most.
const widest = 4

func mayBeWide(wide int) bool { return wide >= 1 && wide <= widest }

// Put gives the bytes of a number, the highest one first.
func Put(n, wide int) ([]byte, api.Errno) {
	if !mayBeWide(wide) {
		return nil, api.ErrArg
	}
	// The shift keeps the sign, so a number below 0 is refused here too.
	if n>>(8*wide) != 0 {
		return nil, api.ErrNum
	}
	b := make([]byte, wide)
	rest := uint32(n)
	for i := wide - 1; i >= 0; i-- {
		b[i] = byte(rest)
		rest >>= 8
	}
	return b, api.OK
}

// Get is the number whose bytes b are.
func Get(b []byte) (int, api.Errno) {
	if !mayBeWide(len(b)) {
		return 0, api.ErrNum
	}
	var n uint32
	for _, x := range b {
		n = n<<8 | uint32(x)
	}
	return int(n), api.OK
}

// Reader reads bytes.
type Reader struct {
	rest []byte
	bad  bool
}

// From makes a reader of its own copy of b: what is handed in is not kept.
func From(b []byte) *Reader { return &Reader{rest: copied(b)} }

// Num is the next number, of so many bytes.
func (r *Reader) Num(wide int) int {
	if !mayBeWide(wide) {
		r.spoil()
		return 0
	}
	n, _ := Get(r.take(wide))
	return n
}

// Bytes are the next n bytes.
func (r *Reader) Bytes(n int) []byte { return copied(r.take(n)) }

// Left is how many bytes are left.
func (r *Reader) Left() int {
	if r.Bad() {
		return 0
	}
	return len(r.rest)
}

// Bad tells whether more was asked for than there was, or what may not be.
func (r *Reader) Bad() bool { return r == nil || r.bad }

// take cuts off the next n bytes, which are the reader's own still.
func (r *Reader) take(n int) []byte {
	if n < 0 || n > r.Left() {
		r.spoil()
	}
	if r.Bad() {
		return nil
	}
	b := r.rest[:n]
	r.rest = r.rest[n:]
	return b
}

func (r *Reader) spoil() {
	if r != nil {
		*r = Reader{bad: true}
	}
}

func copied(b []byte) []byte {
	c := make([]byte, len(b))
	copy(c, b)
	return c
}

// Near is the capped number that is nearest to n.
func Near(n int) int { return min(max(n, 0), api.MaxSum) }

// Add is a sum, capped: that of two capped numbers is within an int.
func Add(a, b int) int { return Near(Near(a) + Near(b)) }

// Sub is a difference, capped.
func Sub(a, b int) int { return Near(Near(a) - Near(b)) }

// Times is a product, capped.
func Times(a, b int) int { return Part(a, b, 1) }

// Part takes a capped number apart into digits of so many bits that two products of a digit and a capped number, added up, are within an int.
const (
	digitBits = 9
	sumBits   = 54 // the least multiple of digitBits that MaxSum fits into
)

// Part is a times b, divided by c. It goes through b's digits, from the highest on, as one divides on paper, since a times b may be beyond an int.
func Part(a, b, c int) int {
	a, b, c = Near(a), Near(b), Near(c)
	if c == 0 {
		return api.MaxSum
	}
	whole, over := a/c, a%c
	out, rest := 0, 0
	for i := sumBits - digitBits; i >= 0; i -= digitBits {
		digit := b >> i & (1<<digitBits - 1)
		rest = rest<<digitBits + over*digit
		out = out<<digitBits + whole*digit + rest/c
		rest %= c
		if out > api.MaxSum { // further digits only make it greater
			return api.MaxSum
		}
	}
	return out
}

// Mask has its highest n bits.
func Mask(n int) uint32 { return ^uint32(0) << (32 - min(max(n, 0), 32)) }
