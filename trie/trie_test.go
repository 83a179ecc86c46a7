package trie_test

import (
	"math"
	"reflect"
	"slices"
	"strconv"
	"testing"

	"bypath/addr"
	"bypath/api"
	"bypath/trie"
)

// prefix is the prefix of a text.
func prefix(s string) api.Prefix {
	p, e := addr.Parse(s)
	if e != api.OK {
		panic(s)
	}
	return p
}

func prefixes(texts ...string) []api.Prefix {
	var l []api.Prefix
	for _, s := range texts {
		l = append(l, prefix(s))
	}
	return l
}

// wrong are prefixes that may not be.
func wrong() []api.Prefix {
	l := []api.Prefix{{Addr: 1}, {Addr: 1 << 31}, {Addr: 0x0a000001, Len: 8}, {Addr: 0x0a800000, Len: 8}, {Addr: 1, Len: 31}, {Addr: math.MaxUint32, Len: 31}}
	for _, n := range []int{-1, -32, 33, 64, math.MinInt, math.MaxInt} {
		l = append(l, api.Prefix{Len: n}, api.Prefix{Addr: 0x0a000000, Len: n}, api.Prefix{Addr: math.MaxUint32, Len: n})
	}
	return l
}

func set[T any](t *testing.T, x *trie.Trie[T], p api.Prefix, thing T) {
	t.Helper()
	if e := x.Set(p, thing); e != api.OK {
		t.Fatal(p, e)
	}
}

// has asks for a thing that must be there.
func has[T comparable](t *testing.T, x *trie.Trie[T], p api.Prefix, want T) {
	t.Helper()
	if got, is := x.Get(p); !is || got != want {
		t.Fatal(addr.Show(p), got, is, want)
	}
}

// hasNone asks for a thing that must not be there.
func hasNone[T comparable](t *testing.T, x *trie.Trie[T], p api.Prefix) {
	t.Helper()
	var zero T
	if got, is := x.Get(p); is || got != zero {
		t.Fatal(addr.Show(p), got, is)
	}
}

// holds asks which prefixes there are.
func holds[T any](t *testing.T, x *trie.Trie[T], l ...api.Prefix) {
	t.Helper()
	if got := x.Prefixes(); !slices.Equal(got, l) || x.Len() != len(l) {
		t.Fatal(got, x.Len(), l)
	}
}

// within asks which of them p holds.
func within[T any](t *testing.T, x *trie.Trie[T], p api.Prefix, l ...api.Prefix) {
	t.Helper()
	if got := x.Within(p); !slices.Equal(got, l) {
		t.Fatal(addr.Show(p), got, l)
	}
}

// longest asks for the longest prefix that holds an address.
func longest[T comparable](t *testing.T, x *trie.Trie[T], dotted, p string, want T) {
	t.Helper()
	a, _ := addr.Address(dotted)
	if got, thing, is := x.Longest(a); !is || got != prefix(p) || thing != want {
		t.Fatal(dotted, addr.Show(got), thing, is, p, want)
	}
}

func longestNone[T comparable](t *testing.T, x *trie.Trie[T], a uint32) {
	t.Helper()
	var zero T
	if p, thing, is := x.Longest(a); is || p != (api.Prefix{}) || thing != zero {
		t.Fatal(addr.Dotted(a), p, thing, is)
	}
}

// empty asks for all that one without things answers.
func empty(t *testing.T, x *trie.Trie[int]) {
	t.Helper()
	holds(t, x)
	for _, p := range append(wrong(), prefixes("0.0.0.0/0", "0.0.0.0/1", "10.0.0.0/8", "0.0.0.0/32", "255.255.255.255/32")...) {
		hasNone(t, x, p)
		within(t, x, p)
		longestNone(t, x, p.Addr)
		if x.Delete(p) {
			t.Fatal(p)
		}
	}
}

// P13.1: at first there is nothing.
func TestNew(t *testing.T) {
	empty(t, trie.New[int]())
}

// P13.1: of a prefix just what was set last counts; others, that hold it or that it holds, have their own.
func TestSet(t *testing.T) {
	x := trie.New[string]()
	l := prefixes("0.0.0.0/0", "10.0.0.0/7", "10.0.0.0/8", "10.0.0.0/32", "11.0.0.0/8", "255.255.255.255/32")
	for i, p := range l {
		hasNone(t, x, p)
		set(t, x, p, strconv.Itoa(i))
		has(t, x, p, strconv.Itoa(i))
	}
	holds(t, x, l...)
	set(t, x, l[2], "other")
	holds(t, x, l...)
	for i, p := range l {
		if i != 2 {
			has(t, x, p, strconv.Itoa(i))
		}
	}
	has(t, x, l[2], "other")
	longest(t, x, "10.9.9.9", "10.0.0.0/8", "other")
	for _, s := range []string{"0.0.0.0/1", "0.0.0.0/32", "8.0.0.0/7", "8.0.0.0/6", "10.0.0.0/9", "10.0.0.0/31", "10.0.0.1/32", "128.0.0.0/1", "255.255.255.254/31", "255.255.255.254/32"} {
		hasNone(t, x, prefix(s))
	}
}

// P13.1: of prefixes that may not be nothing is taken and nothing is told, even if one with the same bits, or as long, is there.
func TestWrong(t *testing.T) {
	x := trie.New[int]()
	l := prefixes("0.0.0.0/0", "10.0.0.0/8", "128.0.0.0/1", "255.255.255.254/31", "255.255.255.255/32")
	for i, p := range l {
		set(t, x, p, 1+i)
	}
	for _, p := range wrong() {
		if e := x.Set(p, 9); e != api.ErrPrefix {
			t.Error(p, e)
		}
		hasNone(t, x, p)
		within(t, x, p)
		if x.Delete(p) {
			t.Error(p)
		}
		holds(t, x, l...)
	}
	for i, p := range l {
		has(t, x, p, 1+i)
	}
}

// P13.1: what had a thing has none then, and may have one again; those above and below it stay.
func TestDelete(t *testing.T) {
	x := trie.New[int]()
	l := prefixes("0.0.0.0/0", "10.0.0.0/8", "10.0.0.0/16", "10.0.0.0/24", "10.0.0.128/25", "10.1.0.0/16")
	for i, p := range l {
		set(t, x, p, 1+i)
	}
	for i, p := range l {
		rest := slices.Concat(l[:i], l[i+1:])
		for range 2 {
			if !x.Delete(p) || x.Delete(p) {
				t.Error(addr.Show(p))
			}
			hasNone(t, x, p)
			holds(t, x, rest...)
			for k, q := range l {
				if k != i {
					has(t, x, q, 1+k)
				}
			}
			set(t, x, p, 1+i)
			holds(t, x, l...)
			has(t, x, p, 1+i)
		}
	}
	for _, s := range []string{"10.0.0.0/9", "10.0.0.0/15", "10.0.0.128/26", "10.0.0.0/25", "11.0.0.0/8", "128.0.0.0/1"} {
		if x.Delete(prefix(s)) {
			t.Error(s)
		}
		holds(t, x, l...)
	}
	for _, p := range l {
		if !x.Delete(p) {
			t.Error(addr.Show(p))
		}
	}
	empty(t, x)
}

// P13.1: the document's example, and both ends of what a prefix holds.
func TestLongest(t *testing.T) {
	x := trie.New[int]()
	set(t, x, prefix("10.0.0.0/8"), 1)
	set(t, x, prefix("10.1.0.0/16"), 2)
	longest(t, x, "10.1.2.3", "10.1.0.0/16", 2)
	longest(t, x, "10.1.0.0", "10.1.0.0/16", 2)
	longest(t, x, "10.1.255.255", "10.1.0.0/16", 2)
	longest(t, x, "10.0.255.255", "10.0.0.0/8", 1)
	longest(t, x, "10.2.0.0", "10.0.0.0/8", 1)
	longest(t, x, "10.0.0.0", "10.0.0.0/8", 1)
	longest(t, x, "10.255.255.255", "10.0.0.0/8", 1)
	for _, s := range []string{"9.255.255.255", "11.0.0.0", "0.0.0.0", "255.255.255.255", "138.1.2.3"} {
		a, _ := addr.Address(s)
		longestNone(t, x, a)
	}
	set(t, x, prefix("0.0.0.0/0"), 3)
	longest(t, x, "11.0.0.0", "0.0.0.0/0", 3)
	longest(t, x, "255.255.255.255", "0.0.0.0/0", 3)
	set(t, x, prefix("10.1.2.3/32"), 4)
	longest(t, x, "10.1.2.3", "10.1.2.3/32", 4)
	longest(t, x, "10.1.2.2", "10.1.0.0/16", 2)
	set(t, x, prefix("255.255.255.255/32"), 5)
	longest(t, x, "255.255.255.255", "255.255.255.255/32", 5)
	longest(t, x, "255.255.255.254", "0.0.0.0/0", 3)
	x.Delete(prefix("10.1.0.0/16"))
	longest(t, x, "10.1.2.2", "10.0.0.0/8", 1)
	longest(t, x, "10.1.2.3", "10.1.2.3/32", 4)
}

// P13.1: which prefixes one holds, itself among them, whether or not it has a thing.
func TestWithin(t *testing.T) {
	x := trie.New[int]()
	l := prefixes("0.0.0.0/0", "10.0.0.0/8", "10.0.0.0/9", "10.1.0.0/16", "10.1.2.3/32", "10.128.0.0/9", "11.0.0.0/8", "192.0.2.0/24")
	for i := len(l) - 1; i >= 0; i-- {
		set(t, x, l[i], i)
	}
	within(t, x, l[0], l...)
	within(t, x, prefix("0.0.0.0/1"), l[1:7]...)
	within(t, x, prefix("128.0.0.0/1"), l[7])
	within(t, x, prefix("10.0.0.0/7"), l[1:7]...)
	within(t, x, l[1], l[1:6]...)
	within(t, x, l[2], l[2:5]...)
	within(t, x, prefix("10.0.0.0/15"), l[3], l[4])
	within(t, x, l[3], l[3], l[4])
	within(t, x, prefix("10.1.2.0/24"), l[4])
	within(t, x, l[4], l[4])
	within(t, x, prefix("10.1.2.2/32"))
	within(t, x, prefix("10.2.0.0/16"))
	within(t, x, prefix("192.0.2.0/25"))
	within(t, x, prefix("0.0.0.0/32"))
	x.Delete(l[3])
	within(t, x, l[3], l[4])
	x.Delete(l[4])
	within(t, x, l[3])
	within(t, x, l[1], l[1], l[2], l[5])
}

// P13.1: a thing is of any type, and it is one though it is the zero value.
func TestTypes(t *testing.T) {
	p, q := prefix("10.0.0.0/8"), prefix("10.0.0.0/9")
	type pair struct{ a, b int }
	a := trie.New[pair]()
	set(t, a, p, pair{})
	set(t, a, q, pair{1, 2})
	has(t, a, p, pair{})
	longest(t, a, "10.128.0.0", "10.0.0.0/8", pair{})
	longest(t, a, "10.0.0.0", "10.0.0.0/9", pair{1, 2})
	b := trie.New[*int]()
	set(t, b, p, nil)
	set(t, b, q, new(int))
	has(t, b, p, nil)
	longest(t, b, "10.128.0.0", "10.0.0.0/8", nil)
	c := trie.New[any]()
	set(t, c, p, nil)
	set(t, c, q, any("x"))
	has(t, c, p, nil)
	has(t, c, q, any("x"))
	d := trie.New[struct{}]()
	set(t, d, q, struct{}{})
	has(t, d, q, struct{}{})
	hasNone(t, d, p)
	e := trie.New[func() int]()
	set(t, e, p, func() int { return 7 })
	if f, is := e.Get(p); !is || f() != 7 {
		t.Error(is)
	}
	if f, is := e.Get(q); is || f != nil {
		t.Error(is)
	}
	f := trie.New[[]int]()
	set(t, f, p, []int{1})
	set(t, f, p, []int{2, 3})
	if l, is := f.Get(p); !is || !slices.Equal(l, []int{2, 3}) {
		t.Error(l, is)
	}
}

// P13.1: a nil one, and one that New did not make, has nothing, and takes nothing.
func TestNil(t *testing.T) {
	for _, x := range []*trie.Trie[int]{nil, {}} {
		empty(t, x)
		for _, p := range append(wrong(), prefixes("0.0.0.0/0", "10.0.0.0/8")...) {
			if e := x.Set(p, 1); e != api.ErrClosed {
				t.Error(p, e)
			}
		}
		empty(t, x)
	}
}

// R3, R4: tries have nothing in common, and what one tells is no one's but the caller's.
func TestOthers(t *testing.T) {
	a, b := trie.New[int](), trie.New[int]()
	l := prefixes("10.0.0.0/8", "10.1.0.0/16", "10.2.0.0/16")
	for i, p := range l {
		set(t, a, p, i)
	}
	empty(t, b)
	for _, got := range [][]api.Prefix{a.Prefixes(), a.Within(l[0])} {
		clear(got[1:])
		_ = append(got[:1], api.Prefix{Len: 9})
	}
	holds(t, a, l...)
	within(t, a, l[0], l...)
	set(t, b, l[0], 7)
	has(t, a, l[0], 0)
}

// next is a number of a fixed sequence.
func next(seed *uint64) int {
	*seed = *seed*6364136223846793005 + 1442695040888963407
	return int(*seed >> 40)
}

// shuffle puts l in another order.
func shuffle[T any](seed *uint64, l []T) {
	for i := range l {
		k := i + next(seed)%(len(l)-i)
		l[i], l[k] = l[k], l[i]
	}
}

// some makes prefixes that hold one another: of few lengths, and of addresses that are unlike in few bits.
func some(seed *uint64, least, most int, shift int) api.Prefix {
	n := least + next(seed)%(most-least+1)
	return addr.Make(0x0a010000|uint32(next(seed)%64)<<shift, n)
}

// P13.2: the same things are there, in whatever order they were set, and others set and deleted between.
func TestOrder(t *testing.T) {
	seed := uint64(7)
	for round := range 60 {
		things := map[api.Prefix]int{}
		for range 40 {
			things[some(&seed, 0, 32, round%27)] = next(&seed)
		}
		var want *trie.Trie[int]
		for range 8 {
			got := jumbled(t, &seed, things, round%27)
			if want == nil {
				want = got
			}
			if !reflect.DeepEqual(got, want) || !slices.Equal(got.Prefixes(), want.Prefixes()) {
				t.Fatal(got.Prefixes(), want.Prefixes())
			}
			for p, thing := range things {
				has(t, got, p, thing)
			}
		}
	}
}

// jumbled is a trie that comes to have things in some order.
func jumbled(t *testing.T, seed *uint64, things map[api.Prefix]int, shift int) *trie.Trie[int] {
	t.Helper()
	x := trie.New[int]()
	var order []api.Prefix
	for p := range things {
		order = append(order, p)
	}
	slices.SortFunc(order, addr.Compare)
	shuffle(seed, order)
	var others []api.Prefix
	for _, p := range order {
		for range next(seed) % 3 {
			other := some(seed, 0, 32, shift)
			set(t, x, other, -1)
			others = append(others, other)
		}
		set(t, x, p, things[p])
		if next(seed)%2 == 0 {
			x.Delete(p)
			set(t, x, p, things[p])
		}
	}
	shuffle(seed, others)
	for _, p := range others {
		if thing, is := things[p]; is {
			set(t, x, p, thing)
		} else {
			x.Delete(p)
		}
	}
	return x
}

// model is what a trie is held against: each question goes over all things.
type model map[api.Prefix]int

// head is the first n bits of a.
func head(a uint32, n int) uint32 { return a >> (32 - n) }

func (m model) within(p api.Prefix) []api.Prefix {
	var l []api.Prefix
	for q := range m {
		if q.Len >= p.Len && head(q.Addr, p.Len) == head(p.Addr, p.Len) {
			l = append(l, q)
		}
	}
	slices.SortFunc(l, func(a, b api.Prefix) int {
		if a.Addr != b.Addr {
			return int(a.Addr) - int(b.Addr)
		}
		return a.Len - b.Len
	})
	return l
}

func (m model) longest(a uint32) (api.Prefix, bool) {
	var best api.Prefix
	is := false
	for p := range m {
		if head(p.Addr, p.Len) == head(a, p.Len) && (!is || p.Len > best.Len) {
			best, is = p, true
		}
	}
	return best, is
}

// check asks all that is told of p, and of the addresses at both its ends and beside them.
func (m model) check(t *testing.T, x *trie.Trie[int], p api.Prefix) {
	t.Helper()
	thing, is := m[p]
	if got, gotIs := x.Get(p); got != thing || gotIs != is {
		t.Fatal(addr.Show(p), got, gotIs, thing, is)
	}
	within(t, x, p, m.within(p)...)
	holds(t, x, m.within(api.Prefix{})...)
	end := p.Addr | uint32(1<<(32-p.Len)-1)
	for _, a := range []uint32{p.Addr, p.Addr - 1, end, end + 1} {
		want, is := m.longest(a)
		if got, thing, gotIs := x.Longest(a); got != want || gotIs != is || thing != m[want] {
			t.Fatal(addr.Dotted(a), got, thing, gotIs, want, m[want], is)
		}
	}
}

// run holds a trie against the model. What is done is told by a number below 8, and a prefix.
func run(t *testing.T, steps int, what func(i int) (int, api.Prefix)) {
	t.Helper()
	x, m := trie.New[int](), model{}
	for i := range steps {
		do, p := what(i)
		_, is := m[p]
		switch {
		case do < 4:
			set(t, x, p, i)
			m[p] = i
		case do < 7:
			if x.Delete(p) != is {
				t.Fatal(i, addr.Show(p), is)
			}
			delete(m, p)
		}
		m.check(t, x, p)
	}
	for p := range m {
		if !x.Delete(p) {
			t.Fatal(addr.Show(p))
		}
	}
	if !reflect.DeepEqual(x, trie.New[int]()) {
		t.Fatal("something is left")
	}
}

// P13.1, P13.2: whatever is set and deleted.
func TestAny(t *testing.T) {
	seed := uint64(11)
	for _, lens := range [][2]int{{0, 32}, {0, 5}, {14, 18}, {27, 32}, {32, 32}} {
		for _, shift := range []int{0, 4, 13, 26} {
			run(t, 400, func(int) (int, api.Prefix) {
				return next(&seed) % 8, some(&seed, lens[0], lens[1], shift)
			})
		}
	}
}

// P13.1: many prefixes, of all addresses.
func TestMany(t *testing.T) {
	x := trie.New[int]()
	const many = 1 << 16
	at := func(i int) api.Prefix { return api.Prefix{Addr: uint32(i) * 2654435761, Len: 32} }
	for i := range many {
		set(t, x, at(i), i)
	}
	l := x.Prefixes()
	if x.Len() != many || len(l) != many || !slices.IsSortedFunc(l, addr.Compare) {
		t.Fatal(x.Len(), len(l))
	}
	for i := range many {
		if p, n, is := x.Longest(at(i).Addr); p != at(i) || n != i || !is {
			t.Fatal(i, p, n, is)
		}
		if !x.Delete(at(i)) {
			t.Fatal(i)
		}
		longestNone(t, x, at(i).Addr)
	}
	empty(t, x)
}

// R1, P13.1, P13.2: any steps at all.
func FuzzTrie(f *testing.F) {
	f.Add([]byte{0, 10, 1, 8, 0, 10, 1, 16, 4, 10, 1, 8})
	f.Add([]byte{0, 0, 0, 0, 0, 255, 255, 32, 7, 255, 255, 31, 6, 0, 0, 0})
	f.Fuzz(func(t *testing.T, b []byte) {
		if len(b) > 600 {
			return
		}
		run(t, len(b)/4, func(i int) (int, api.Prefix) {
			s := b[4*i:]
			a := uint32(s[1])<<24 | uint32(s[2])<<8 | uint32(s[2])
			return int(s[0]) % 8, addr.Make(a, int(s[3])%33)
		})
	})
}

// R1: any prefix, whether or not it may be.
func FuzzWrong(f *testing.F) {
	f.Add(uint32(0x0a000000), 8)
	f.Add(uint32(0x0a000001), 8)
	f.Add(uint32(math.MaxUint32), math.MinInt)
	f.Fuzz(func(t *testing.T, a uint32, n int) {
		x, p := trie.New[int](), api.Prefix{Addr: a, Len: n}
		if e := x.Set(p, 5); e != addr.Check(p) {
			t.Fatal(p, e)
		}
		if addr.Check(p) != api.OK {
			empty(t, x)
			return
		}
		holds(t, x, p)
		model{p: 5}.check(t, x, p)
	})
}
