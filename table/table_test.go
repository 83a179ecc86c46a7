package table_test

import (
	"math"
	"slices"
	"testing"

	"bypath/addr"
	"bypath/api"
	"bypath/table"
)

// most is how many detours there are at most.
const most = 4096

// prefix is the prefix of a text.
func prefix(s string) api.Prefix {
	p, e := addr.Parse(s)
	if e != api.OK {
		panic(s)
	}
	return p
}

// over is a detour of a prefix, with the other parts of its key made of an ID.
func over(s string, id, until int) api.Over {
	return api.Over{Key: api.Key{Router: id + 1, P: prefix(s), ID: id}, Until: until}
}

// wrong are prefixes that may not be.
func wrong() []api.Prefix {
	l := []api.Prefix{{Addr: 1}, {Addr: 1 << 31}, {Addr: 0x0a000001, Len: 8}, {Addr: 0x0a800000, Len: 8}, {Addr: 1, Len: 31}, {Addr: math.MaxUint32, Len: 31}}
	for _, n := range []int{-1, -32, 33, 64, math.MinInt, math.MaxInt} {
		l = append(l, api.Prefix{Len: n}, api.Prefix{Addr: 0x0a000000, Len: n}, api.Prefix{Addr: math.MaxUint32, Len: n})
	}
	return l
}

// odd are moments, and other numbers, that stand at an edge.
func odd() []int {
	return []int{math.MinInt, -1, 0, 1, 5, api.MaxSum, api.MaxSum + 1, math.MaxInt}
}

func set(t *testing.T, x *table.Table, l ...api.Over) {
	t.Helper()
	for _, o := range l {
		if e := x.Set(o); e != api.OK {
			t.Fatal(o, e)
		}
	}
}

// holds asks which detours there are, each one by itself too.
func holds(t *testing.T, x *table.Table, l ...api.Over) {
	t.Helper()
	if all := x.All(); !slices.Equal(all, l) || x.Len() != len(l) {
		t.Fatal(all, x.Len(), l)
	}
	for _, o := range l {
		if got, is := x.Get(o.Key.P); !is || got != o {
			t.Fatal(o, got, is)
		}
	}
}

// hasNone asks for a detour that must not be there.
func hasNone(t *testing.T, x *table.Table, p api.Prefix) {
	t.Helper()
	if o, is := x.Get(p); is || o != (api.Over{}) {
		t.Fatal(p, o, is)
	}
	if x.Delete(p) {
		t.Fatal(p, "is deleted")
	}
}

// expires takes those whose time is over, which must be l.
func expires(t *testing.T, x *table.Table, now int, l ...api.Over) {
	t.Helper()
	if got := x.Expire(now); !slices.Equal(got, l) {
		t.Fatal(now, got, l)
	}
	for _, o := range l {
		hasNone(t, x, o.Key.P)
	}
	for _, o := range x.All() {
		if o.Until < now {
			t.Fatal(now, o)
		}
	}
}

// P23.1: at first there are none.
func TestNew(t *testing.T) {
	x := table.New()
	holds(t, x)
	for _, p := range append(wrong(), prefix("0.0.0.0/0"), prefix("10.0.0.0/8")) {
		hasNone(t, x, p)
	}
	for _, now := range odd() {
		expires(t, x, now)
	}
	if l := x.Clear(); len(l) != 0 {
		t.Error(l)
	}
	holds(t, x)
}

// P23.1: in the order of prefixes, whatever the order is in which they are put, and whatever else they have.
func TestOrder(t *testing.T) {
	x := table.New()
	l := []api.Over{
		over("0.0.0.0/0", 5, 3), over("0.0.0.0/1", 4, 9), over("10.0.0.0/8", 3, -4), over("10.0.0.0/16", 2, 7), over("10.0.0.0/32", 1, 0),
		over("10.1.0.0/16", 0, 1), over("128.0.0.0/1", 9, 2), over("255.255.255.255/32", -7, 1),
	}
	for i := range l {
		set(t, x, l[i*5%len(l)])
	}
	holds(t, x, l...)
	for i := range l {
		y := table.New()
		for j := range l {
			set(t, y, l[(i+j)%len(l)])
		}
		holds(t, y, l...)
		if got := y.Expire(10); !slices.Equal(got, l) {
			t.Error(i, got)
		}
	}
}

// P23.1: a prefix that may not be is refused, and nothing changes.
func TestWrong(t *testing.T) {
	x := table.New()
	o := over("10.0.0.0/8", 1, 5)
	set(t, x, o)
	for _, p := range wrong() {
		if e := x.Set(api.Over{Key: api.Key{P: p}, Until: 9}); e != api.ErrPrefix {
			t.Error(p, e)
		}
		hasNone(t, x, p)
		holds(t, x, o)
	}
}

// P23.1: the parts of a detour but its prefix may be any.
func TestAnyParts(t *testing.T) {
	for _, n := range odd() {
		for _, until := range odd() {
			x := table.New()
			o := api.Over{Key: api.Key{Router: n, P: prefix("10.0.0.0/8"), ID: n}, Until: until}
			set(t, x, o)
			holds(t, x, o)
		}
	}
}

// P23.1: of a prefix just the last one is there, be its time longer or not; prefixes that hold it, or that it holds, have their own.
func TestSetAnew(t *testing.T) {
	x := table.New()
	wide, p, narrow := over("10.0.0.0/8", 1, 10), over("10.0.0.0/16", 2, 20), over("10.0.0.0/17", 3, 30)
	set(t, x, wide, p, narrow)
	for _, o := range []api.Over{over("10.0.0.0/16", 7, 5), over("10.0.0.0/16", 7, 50), over("10.0.0.0/16", 0, 50), p} {
		set(t, x, o)
		holds(t, x, wide, o, narrow)
	}
	for _, s := range []string{"10.0.0.0/9", "10.0.0.0/15", "10.0.0.0/18", "10.1.0.0/16", "11.0.0.0/8", "0.0.0.0/0"} {
		hasNone(t, x, prefix(s))
	}
	if !x.Delete(p.Key.P) {
		t.Error(p)
	}
	hasNone(t, x, p.Key.P)
	holds(t, x, wide, narrow)
	set(t, x, p)
	holds(t, x, wide, p, narrow)
}

// P23.1: as many as there may be, and no more; the one of a prefix may still be another one.
func TestFull(t *testing.T) {
	x := table.New()
	at := func(i, until int) api.Over {
		return api.Over{Key: api.Key{P: addr.Make(uint32(i)<<16, 16)}, Until: until}
	}
	var l []api.Over
	for i := range most {
		l = append(l, at(i, i%7))
		set(t, x, l[i])
	}
	full := func() {
		t.Helper()
		if e := x.Set(at(most, 1)); e != api.ErrFull {
			t.Fatal(e)
		}
		if e := x.Set(over("0.0.0.0/0", 0, 0)); e != api.ErrFull {
			t.Fatal(e)
		}
		for _, p := range wrong() {
			if e := x.Set(api.Over{Key: api.Key{P: p}}); e != api.ErrPrefix {
				t.Fatal(p, e)
			}
		}
		holds(t, x, l...)
	}
	full()
	l[0], l[most-1] = at(0, 9), at(most-1, 8)
	set(t, x, l[0], l[most-1])
	full()
	if !x.Delete(l[5].Key.P) || x.Len() != most-1 {
		t.Error(x.Len())
	}
	set(t, x, l[5])
	full()
	if got := x.Clear(); !slices.Equal(got, l) {
		t.Error(len(got))
	}
	holds(t, x)
	for _, o := range l {
		set(t, x, o)
	}
	full()
}

// P23.1, P23.2: the document's example, and others at their last moment.
func TestExpire(t *testing.T) {
	x := table.New()
	o := over("10.0.0.0/8", 1, 5)
	set(t, x, o)
	expires(t, x, 5)
	holds(t, x, o)
	expires(t, x, 6, o)
	holds(t, x)

	a, b, c, d := over("9.0.0.0/8", 1, 30), over("10.0.0.0/8", 2, 20), over("10.0.0.0/9", 3, 30), over("11.0.0.0/8", 4, 31)
	set(t, x, d, c, b, a)
	expires(t, x, 20)
	expires(t, x, math.MinInt)
	holds(t, x, a, b, c, d)
	expires(t, x, 31, a, b, c)
	holds(t, x, d)
	expires(t, x, 31)
	set(t, x, a)
	expires(t, x, math.MaxInt, a, d)
	holds(t, x)

	for _, until := range odd() {
		for _, now := range odd() {
			o.Until = until
			set(t, x, o)
			if until < now {
				expires(t, x, now, o)
			} else {
				expires(t, x, now)
				holds(t, x, o)
			}
		}
	}
}

// P23.1: what had a long time, and has a short one now, ends by that; and the other way round.
func TestExpireAnew(t *testing.T) {
	x := table.New()
	a, b := over("10.0.0.0/8", 1, 100), over("11.0.0.0/8", 1, 1)
	set(t, x, a, b)
	a.Until, b.Until = 1, 100
	set(t, x, a, b)
	expires(t, x, 50, a)
	holds(t, x, b)
}

// P23.1: Clear gives all in order, whether their time is over or not, and leaves a table that can be used.
func TestClear(t *testing.T) {
	x := table.New()
	l := []api.Over{over("9.0.0.0/8", 1, math.MinInt), over("10.0.0.0/8", 2, math.MaxInt), over("10.0.0.0/9", 3, 0)}
	set(t, x, l[2], l[0], l[1])
	if got := x.Clear(); !slices.Equal(got, l) {
		t.Error(got)
	}
	for _, o := range l {
		hasNone(t, x, o.Key.P)
	}
	holds(t, x)
	if got := x.Clear(); len(got) != 0 {
		t.Error(got)
	}
	expires(t, x, math.MaxInt)
	set(t, x, l[1])
	holds(t, x, l[1])
}

// P23.1: of a nil Table, and alike of one that New did not make.
func TestNil(t *testing.T) {
	for _, x := range []*table.Table{nil, new(table.Table)} {
		for _, p := range append(wrong(), prefix("10.0.0.0/8")) {
			if e := x.Set(api.Over{Key: api.Key{P: p}, Until: 5}); e != api.ErrClosed {
				t.Error(p, e)
			}
			hasNone(t, x, p)
		}
		holds(t, x)
		for _, now := range odd() {
			expires(t, x, now)
		}
		if l := x.Clear(); len(l) != 0 {
			t.Error(l)
		}
	}
}

// R3: what is answered is the caller's.
func TestOwn(t *testing.T) {
	x := table.New()
	l := []api.Over{over("9.0.0.0/8", 1, 1), over("10.0.0.0/8", 2, 2), over("11.0.0.0/8", 3, 3)}
	set(t, x, l...)
	all := x.All()
	all[0], all[1].Until = api.Over{}, 99
	_ = append(all[:1], api.Over{})
	holds(t, x, l...)
	gone := x.Expire(2)
	gone[0].Until = 99
	_ = append(gone, l[0], l[0])
	holds(t, x, l[1:]...)
	gone = x.Clear()
	set(t, x, l...)
	gone[0], gone[1] = api.Over{}, api.Over{}
	holds(t, x, l...)
}

// P23.1: two tables have nothing to do with each other.
func TestTwo(t *testing.T) {
	x, y := table.New(), table.New()
	o := over("10.0.0.0/8", 1, 1)
	set(t, x, o)
	holds(t, y)
	set(t, y, over("10.0.0.0/8", 2, 2))
	y.Clear()
	holds(t, x, o)
}

// model is detours in order.
type model []api.Over

// place is where p stands, or would, and whether it is there.
func (m model) place(p api.Prefix) (int, bool) {
	return slices.BinarySearchFunc(m, p, func(o api.Over, p api.Prefix) int { return addr.Compare(o.Key.P, p) })
}

func (m *model) set(o api.Over) api.Errno {
	at, is := m.place(o.Key.P)
	switch {
	case addr.Check(o.Key.P) != api.OK:
		return api.ErrPrefix
	case is:
		(*m)[at] = o
	case len(*m) == most:
		return api.ErrFull
	default:
		*m = slices.Insert(*m, at, o)
	}
	return api.OK
}

func (m *model) delete(p api.Prefix) bool {
	at, is := m.place(p)
	if is {
		*m = slices.Delete(*m, at, at+1)
	}
	return is
}

func (m *model) expire(now int) []api.Over {
	var left, ended []api.Over
	for _, o := range *m {
		if o.Until < now {
			ended = append(ended, o)
		} else {
			left = append(left, o)
		}
	}
	*m = left
	return ended
}

// step does one call on both, and holds the answers against each other.
func step(t *testing.T, x *table.Table, m *model, call, p, until int) {
	t.Helper()
	o := api.Over{Key: api.Key{Router: p % 3, P: api.Prefix{Addr: uint32(p%64) << 26, Len: 4 + p%4}, ID: until % 5}, Until: until}
	switch call % 16 {
	case 0:
		if got, want := x.Expire(until), m.expire(until); !slices.Equal(got, want) {
			t.Fatal(until, got, want)
		}
	case 1, 2, 3:
		if got, want := x.Delete(o.Key.P), m.delete(o.Key.P); got != want {
			t.Fatal(o, got)
		}
	case 4:
		if until%8 == 0 {
			if got := x.Clear(); !slices.Equal(got, *m) {
				t.Fatal(got, *m)
			}
			*m = nil
		}
	default:
		if got, want := x.Set(o), m.set(o); got != want {
			t.Fatal(o, got, want)
		}
	}
	at, is := m.place(o.Key.P)
	if got, there := x.Get(o.Key.P); there != is || is && got != (*m)[at] || !is && got != (api.Over{}) {
		t.Fatal(o, got, there)
	}
	holds(t, x, *m...)
}

// P23.1, P23.2: any calls, held against plain lists.
func TestModel(t *testing.T) {
	seed := uint64(23)
	next := func(below int) int {
		seed = seed*6364136223846793005 + 1442695040888963407
		return int(seed>>33) % below
	}
	for range 60 {
		x, m := table.New(), model{}
		for range 300 {
			step(t, x, &m, next(16), next(64), next(40))
		}
	}
}

// R1: whatever is put, no call panics, and the answers fit together.
func FuzzTable(f *testing.F) {
	f.Add(uint32(0x0a000000), 8, 5, 6)
	f.Add(uint32(1), 33, math.MinInt, math.MaxInt)
	f.Fuzz(func(t *testing.T, of uint32, n, until, now int) {
		x, m := table.New(), model{}
		for _, o := range []api.Over{{Key: api.Key{P: api.Prefix{Addr: of, Len: n}}, Until: until}, {Key: api.Key{P: addr.Make(of, n)}, Until: now}, {Until: now + 1}} {
			if got, want := x.Set(o), m.set(o); got != want {
				t.Fatal(o, got, want)
			}
		}
		holds(t, x, m...)
		if got, want := x.Expire(now), m.expire(now); !slices.Equal(got, want) {
			t.Fatal(got, want)
		}
		holds(t, x, m...)
	})
}
