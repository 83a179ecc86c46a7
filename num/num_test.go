package num_test

import (
	"bytes"
	"math"
	"math/big"
	"math/bits"
	"slices"
	"testing"

	"bypath/api"
	"bypath/num"
)

// P1.1: ordinary numbers, the least and the greatest of each width, those one beyond, and widths that may not be.
func TestPut(t *testing.T) {
	for _, x := range []struct {
		n, wide int
		want    []byte
		e       api.Errno
	}{
		{258, 2, []byte{1, 2}, api.OK},
		{258, 4, []byte{0, 0, 1, 2}, api.OK},
		{0x01020304, 4, []byte{1, 2, 3, 4}, api.OK},
		{0xfedcba, 3, []byte{0xfe, 0xdc, 0xba}, api.OK},
		{0, 1, []byte{0}, api.OK},
		{0, 4, []byte{0, 0, 0, 0}, api.OK},
		{1<<8 - 1, 1, []byte{255}, api.OK},
		{1<<16 - 1, 2, []byte{255, 255}, api.OK},
		{1<<24 - 1, 3, []byte{255, 255, 255}, api.OK},
		{1<<32 - 1, 4, []byte{255, 255, 255, 255}, api.OK},
		{1 << 8, 1, nil, api.ErrNum},
		{1 << 16, 2, nil, api.ErrNum},
		{1 << 24, 3, nil, api.ErrNum},
		{1 << 32, 4, nil, api.ErrNum},
		{-1, 1, nil, api.ErrNum},
		{-1, 4, nil, api.ErrNum},
		{math.MinInt, 4, nil, api.ErrNum},
		{math.MaxInt, 4, nil, api.ErrNum},
		{0, 0, nil, api.ErrArg},
		{0, 5, nil, api.ErrArg},
		{0, -1, nil, api.ErrArg},
		{0, 64, nil, api.ErrArg},
		{0, math.MinInt, nil, api.ErrArg},
		{0, math.MaxInt, nil, api.ErrArg},
		{-1, 0, nil, api.ErrArg}, // of two errors the one that is named first
		{1 << 40, 5, nil, api.ErrArg},
	} {
		b, e := num.Put(x.n, x.wide)
		if !bytes.Equal(b, x.want) || e != x.e {
			t.Errorf("Put(%d, %d) = %v, %d", x.n, x.wide, b, e)
		}
	}
}

// P1.1: from 1 to 4 bytes are a number, fewer or more none.
func TestGet(t *testing.T) {
	for _, x := range []struct {
		b    []byte
		want int
		e    api.Errno
	}{
		{[]byte{7}, 7, api.OK},
		{[]byte{1, 2}, 258, api.OK},
		{[]byte{1, 0, 0}, 65536, api.OK},
		{[]byte{255, 255, 255, 255}, 1<<32 - 1, api.OK},
		{[]byte{128, 0, 0, 0}, 1 << 31, api.OK},
		{[]byte{0, 0, 0, 0}, 0, api.OK},
		{[]byte{9, 8, 7, 6}[:1], 9, api.OK}, // what lies behind the end counts for nothing
		{nil, 0, api.ErrNum},
		{[]byte{}, 0, api.ErrNum},
		{[]byte{0, 0, 0, 0, 1}, 0, api.ErrNum},
		{make([]byte, 1000), 0, api.ErrNum},
	} {
		n, e := num.Get(x.b)
		if n != x.want || e != x.e {
			t.Errorf("Get(%v) = %d, %d", x.b, n, e)
		}
	}
}

// P1.2: numbers and bytes come one behind the other, up to the last one.
func TestReader(t *testing.T) {
	r := num.From([]byte{1, 2, 3, 4, 5, 6, 7, 8, 9, 10, 11, 12})
	for i, x := range []struct{ wide, want, left int }{{1, 1, 11}, {2, 0x0203, 9}, {3, 0x040506, 6}} {
		if n := r.Num(x.wide); n != x.want || r.Left() != x.left || r.Bad() {
			t.Error(i, n, r.Left(), r.Bad())
		}
	}
	if b := r.Bytes(0); len(b) != 0 || r.Left() != 6 || r.Bad() {
		t.Error(b, r.Left(), r.Bad())
	}
	if b := r.Bytes(2); !bytes.Equal(b, []byte{7, 8}) || r.Left() != 4 || r.Bad() {
		t.Error(b, r.Left(), r.Bad())
	}
	if n := r.Num(4); n != 0x090a0b0c || r.Left() != 0 || r.Bad() {
		t.Error(n, r.Left(), r.Bad())
	}
	if b := r.Bytes(0); len(b) != 0 || r.Bad() {
		t.Error("the end alone makes no reader bad")
	}
	if n := r.Num(1); n != 0 || !r.Bad() {
		t.Error(n, r.Bad())
	}
}

// P1.2: whatever may not be asked for makes a reader bad, for good.
func TestReaderBad(t *testing.T) {
	asks := map[string]func(r *num.Reader) bool{
		"width 0":        func(r *num.Reader) bool { return r.Num(0) == 0 },
		"width 5":        func(r *num.Reader) bool { return r.Num(5) == 0 },
		"width below 0":  func(r *num.Reader) bool { return r.Num(math.MinInt) == 0 },
		"width beyond":   func(r *num.Reader) bool { return r.Num(math.MaxInt) == 0 },
		"bytes below 0":  func(r *num.Reader) bool { return len(r.Bytes(-1)) == 0 },
		"the least int":  func(r *num.Reader) bool { return len(r.Bytes(math.MinInt)) == 0 },
		"more than left": func(r *num.Reader) bool { return len(r.Bytes(9)) == 0 },
		"greatest int":   func(r *num.Reader) bool { return len(r.Bytes(math.MaxInt)) == 0 },
		"number cut off": func(r *num.Reader) bool { r.Bytes(5); return r.Num(4) == 0 },
	}
	for name, ask := range asks {
		r := num.From([]byte{1, 2, 3, 4, 5, 6, 7, 8})
		if r.Bad() || r.Left() != 8 {
			t.Error(name, "bad ahead")
		}
		for again := 0; again < 2; again++ {
			if !ask(r) || !r.Bad() || r.Left() != 0 {
				t.Error(name, again, r.Bad(), r.Left())
			}
			if r.Num(1) != 0 || len(r.Bytes(1)) != 0 || len(r.Bytes(0)) != 0 || !r.Bad() || r.Left() != 0 {
				t.Error(name, "not bad for good")
			}
		}
	}
}

func TestReaderOfNothing(t *testing.T) {
	for _, b := range [][]byte{nil, {}} {
		r := num.From(b)
		if r.Bad() || r.Left() != 0 || len(r.Bytes(0)) != 0 || r.Bad() || r.Num(1) != 0 || !r.Bad() {
			t.Error("an empty reader is bad just when something is asked for")
		}
	}
	var none *num.Reader
	if none.Num(1) != 0 || none.Num(0) != 0 || len(none.Bytes(0)) != 0 || len(none.Bytes(1)) != 0 || len(none.Bytes(-1)) != 0 || none.Left() != 0 || !none.Bad() {
		t.Error("nil Reader")
	}
}

// P1.2 with R3: a reader keeps nothing of what it was handed, and hands out nothing of what it keeps.
func TestReaderShares(t *testing.T) {
	in := []byte{1, 2, 3, 4, 5, 6}
	r := num.From(in)
	in[0], in[4] = 90, 90
	out := r.Bytes(2)
	if !bytes.Equal(out, []byte{1, 2}) {
		t.Error(out)
	}
	out[1] = 91
	_ = append(out, 92, 93)
	if b := r.Bytes(4); !bytes.Equal(b, []byte{3, 4, 5, 6}) {
		t.Error(b)
	}
	if !bytes.Equal(in, []byte{90, 2, 3, 4, 90, 6}) {
		t.Error("what was handed in was changed:", in)
	}
}

// edges are numbers below, at and about the caps, and some between.
var edges = []int{
	math.MinInt, math.MinInt + 1, -api.MaxSum - 1, -api.MaxSum, -7, -1, 0, 1, 2, 3, 7, 511, 512, 513, 999, 1000, 1 << 18,
	1<<26 - 1, 1 << 26, 1<<26 + 1, 1<<27 - 1, 1 << 27, 94906265, 94906266, 1<<45 - 1, 1 << 45, 1<<52 - 1, 1 << 52, 1<<52 + 1,
	6004799503160661, api.MaxSum / 2, api.MaxSum - 1, api.MaxSum, api.MaxSum + 1, api.MaxSum + 2, math.MaxInt - 1, math.MaxInt,
}

var cap53 = big.NewInt(api.MaxSum)

// capped is the number that is meant, of any size, from 0 to MaxSum.
func capped(n *big.Int) *big.Int {
	if n.Sign() < 0 {
		return new(big.Int)
	}
	if n.Cmp(cap53) > 0 {
		return cap53
	}
	return n
}

func nearBig(n int) *big.Int { return capped(big.NewInt(int64(n))) }

// P1.3: Near, Add, Sub, Times against numbers of any size.
func TestSums(t *testing.T) {
	for _, a := range edges {
		x := nearBig(a)
		if n := num.Near(a); int64(n) != x.Int64() {
			t.Errorf("Near(%d) = %d", a, n)
		}
		for _, b := range edges {
			y := nearBig(b)
			for name, c := range map[string]struct {
				got  int
				want *big.Int
			}{
				"Add":   {num.Add(a, b), new(big.Int).Add(x, y)},
				"Sub":   {num.Sub(a, b), new(big.Int).Sub(x, y)},
				"Times": {num.Times(a, b), new(big.Int).Mul(x, y)},
			} {
				if int64(c.got) != capped(c.want).Int64() {
					t.Errorf("%s(%d, %d) = %d, not %d", name, a, b, c.got, capped(c.want))
				}
			}
		}
	}
}

func partBig(a, b, c int) int {
	x, y, z := nearBig(a), nearBig(b), nearBig(c)
	if z.Sign() == 0 {
		return api.MaxSum
	}
	n := new(big.Int).Mul(x, y)
	return int(capped(n.Quo(n, z)).Int64())
}

// P1.3: Part is not capped on the way, but in the end.
func TestPart(t *testing.T) {
	for _, x := range []struct{ a, b, c, want int }{
		{7, 5, 3, 11},
		{1 << 40, 1 << 40, 1 << 39, 1 << 41},
		{api.MaxSum, api.MaxSum, api.MaxSum, api.MaxSum},
		{api.MaxSum, 999, 1000, 8998192055486250},
		{api.MaxSum, api.MaxSum - 1, api.MaxSum, api.MaxSum - 1},
		{api.MaxSum, 1000, 999, api.MaxSum},
		{1, 1, 2, 0},
		{5, 5, 0, api.MaxSum},
		{0, 5, 0, api.MaxSum},
		{0, 5, -3, api.MaxSum},
		{-5, 5, 1, 0},
		{-5, -5, 1, 0},
	} {
		if n := num.Part(x.a, x.b, x.c); n != x.want {
			t.Errorf("Part(%d, %d, %d) = %d, not %d", x.a, x.b, x.c, n, x.want)
		}
	}
	for _, a := range edges {
		for _, b := range edges {
			for _, c := range edges {
				if n, want := num.Part(a, b, c), partBig(a, b, c); n != want {
					t.Fatalf("Part(%d, %d, %d) = %d, not %d", a, b, c, n, want)
				}
			}
		}
	}
}

// next is a number of a fixed sequence, of a width that varies too.
func next(seed *uint64) int {
	*seed = *seed*6364136223846793005 + 1442695040888963407
	x := *seed ^ *seed>>29
	return int(x >> 10 >> (x & 63))
}

func TestPartOfMany(t *testing.T) {
	seed := uint64(1)
	for i := 0; i < 200000; i++ {
		a, b, c := next(&seed), next(&seed), next(&seed)
		if n, want := num.Part(a, b, c), partBig(a, b, c); n != want {
			t.Fatalf("Part(%d, %d, %d) = %d, not %d", a, b, c, n, want)
		}
	}
}

// P1.3: just the highest n bits are 1.
func TestMask(t *testing.T) {
	if num.Mask(8) != 0xff000000 {
		t.Error(num.Mask(8))
	}
	for n := -3; n <= 40; n++ {
		m, ones := num.Mask(n), min(max(n, 0), 32)
		if bits.OnesCount32(m) != ones || bits.LeadingZeros32(^m) != ones {
			t.Errorf("Mask(%d) = %x", n, m)
		}
	}
	if num.Mask(math.MinInt) != 0 || num.Mask(math.MaxInt) != 1<<32-1 || num.Mask(1<<32) != 1<<32-1 || num.Mask(-1<<32) != 0 {
		t.Error("far beyond")
	}
}

// P1.4: what is put is got, by Get and by a reader.
func TestPutIsGot(t *testing.T) {
	for wide := 1; wide <= 4; wide++ {
		most := 1<<(8*wide) - 1
		for i := 0; i <= 1000; i++ {
			for _, n := range []int{min(i, most), most - min(i, most), most / 1000 * i} {
				b, e := num.Put(n, wide)
				if len(b) != wide || e != api.OK {
					t.Fatal(n, wide, b, e)
				}
				if got, e := num.Get(b); got != n || e != api.OK {
					t.Fatal(n, wide, got, e)
				}
				if r := num.From(b); r.Num(wide) != n || r.Left() != 0 || r.Bad() {
					t.Fatal(n, wide)
				}
			}
		}
	}
}

// P1.4: Add and Times do not hang on the order, and rise.
func TestOrder(t *testing.T) {
	rising := slices.Clone(edges)
	slices.Sort(rising)
	for _, b := range rising {
		for i, a := range rising {
			if num.Add(a, b) != num.Add(b, a) || num.Times(a, b) != num.Times(b, a) {
				t.Error("order:", a, b)
			}
			if i > 0 && (num.Add(rising[i-1], b) > num.Add(a, b) || num.Times(rising[i-1], b) > num.Times(a, b)) {
				t.Error("falls:", rising[i-1], a, b)
			}
		}
	}
}
