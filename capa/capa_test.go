package capa_test

import (
	"math"
	"slices"
	"testing"

	"bypath/addr"
	"bypath/api"
	"bypath/capa"
	"bypath/hop"
)

// ways are the interfaces 1, 2, 5 and Max32, not in the order of their numbers.
func ways() []api.Iface {
	return []api.Iface{
		{ID: 5, Router: 0, Net: addr.Make(0x0a000000, 8), Cap: 500}, {ID: api.Max32, Router: 15, Net: addr.Make(0, 0), Cap: api.MaxSum},
		{ID: 1, Router: 3, Net: addr.Make(0x0b000000, 8), Cap: 0}, {ID: 2, Router: 0, Net: addr.Make(0x0b000000, 8), Cap: 200},
	}
}

// table is a Capa of interfaces.
func table(t *testing.T, l ...api.Iface) *capa.Capa {
	t.Helper()
	h, e := hop.New(l)
	if e != api.OK {
		t.Fatal(l, e)
	}
	c, e := capa.New(h)
	if e != api.OK || c == nil {
		t.Fatal(l, e)
	}
	return c
}

func carries(source, seq int, l ...api.Carry) api.Carries {
	return api.Carries{Source: source, Seq: seq, L: l}
}

func carry(id, n int) api.Carry { return api.Carry{Iface: id, Cap: n} }

func drain(id, n int) api.Carry { return api.Carry{Iface: id, Cap: n, Drain: true} }

// takes lets c take what may be said.
func takes(t *testing.T, c *capa.Capa, now int, x api.Carries) {
	t.Helper()
	if e := capa.Check(x); e != api.OK {
		t.Fatal(x, e)
	}
	if e := c.Take(x, now); e != api.OK {
		t.Fatal(x, now, e)
	}
}

// bears asks for what all interfaces carry, by each one's number too.
func bears(t *testing.T, c *capa.Capa, l ...api.Carry) {
	t.Helper()
	if a := c.All(); !slices.Equal(a, l) {
		t.Error(a, "but not", l)
	}
	for _, x := range l {
		if y, is := c.Get(x.Iface); !is || y != x {
			t.Error(x, y, is)
		}
	}
}

// stamped asks for a source's moment (below 0: none).
func stamped(t *testing.T, c *capa.Capa, source, at int) {
	t.Helper()
	if n, is := c.Stamp(source); is != (at >= 0) || n != max(at, 0) {
		t.Error(source, n, is, at)
	}
}

// without asks for an interface that is not in the table.
func without(t *testing.T, c *capa.Capa, id int) {
	t.Helper()
	if x, is := c.Get(id); is || x != (api.Carry{}) {
		t.Error(id, x)
	}
	for _, n := range []int{math.MinInt, 0, 1, 1000, math.MaxInt} {
		if k := c.Limit(id, n); k != 0 {
			t.Error(id, n, k)
		}
	}
}

// P18.1: what the table says, where nothing was said; all by their numbers.
func TestTable(t *testing.T) {
	c := table(t, ways()...)
	bears(t, c, carry(1, 0), carry(2, 200), carry(5, 500), carry(api.Max32, api.MaxSum))
	for _, id := range []int{math.MinInt, -1, 0, 3, 4, 6, api.Max32 - 1, api.Max32 + 1, math.MaxInt} {
		without(t, c, id)
	}
	for _, n := range []int{math.MinInt, -1, 0, 7, 15, 16, math.MaxInt} {
		stamped(t, c, n, -1)
	}
	bears(t, table(t))
}

// P18.1: what was taken last holds, whichever source said it, and whatever the moments and numbers are.
func TestLast(t *testing.T) {
	c := table(t, ways()...)
	takes(t, c, 50, carries(0, 9, carry(2, 20), drain(5, 600)))
	bears(t, c, carry(1, 0), carry(2, 20), drain(5, 600), carry(api.Max32, api.MaxSum))
	takes(t, c, 40, carries(15, 3, drain(2, 30), carry(1, api.MaxSum)))
	bears(t, c, carry(1, api.MaxSum), drain(2, 30), drain(5, 600), carry(api.Max32, api.MaxSum))
	takes(t, c, 45, carries(0, 10, carry(5, 0)))
	bears(t, c, carry(1, api.MaxSum), drain(2, 30), carry(5, 0), carry(api.Max32, api.MaxSum))
	takes(t, c, 0, carries(7, 0, carry(api.Max32, 1), carry(1, 5)))
	bears(t, c, carry(1, 5), drain(2, 30), carry(5, 0), carry(api.Max32, 1))
	takes(t, c, 60, carries(0, 11))
	bears(t, c, carry(1, 5), drain(2, 30), carry(5, 0), carry(api.Max32, 1))
	stamped(t, c, 0, 60)
	stamped(t, c, 7, 0)
	stamped(t, c, 15, 40)
	for _, n := range []int{math.MinInt, -1, 1, 6, 8, 14, 16, math.MaxInt} {
		stamped(t, c, n, -1)
	}
	without(t, c, 0)
}

// P18.1: numbers must rise, those of each source by themselves; moments need not.
func TestOld(t *testing.T) {
	c := table(t, ways()...)
	cap, at := 200, -1
	for i, x := range []struct {
		source, seq, now int
		e                api.Errno
	}{
		{2, 0, 9, api.OK}, {2, 0, 10, api.ErrOld}, {2, 1, 10, api.OK}, {2, 1, 11, api.ErrOld}, {2, 0, 11, api.ErrOld}, {2, 5, 8, api.OK},
		{2, 4, 9, api.ErrOld}, {2, 5, 9, api.ErrOld}, {2, 6, 0, api.OK}, {2, api.MaxSum, api.MaxSum, api.OK}, {2, api.MaxSum, 5, api.ErrOld},
		{2, 0, 5, api.ErrOld}, {2, api.MaxSum + 1, 5, api.ErrArg},
	} {
		if e := c.Take(carries(x.source, x.seq, carry(2, i)), x.now); e != x.e {
			t.Error(x, e)
		}
		if x.e == api.OK {
			cap, at = i, x.now
		}
		bears(t, c, carry(1, 0), carry(2, cap), carry(5, 500), carry(api.Max32, api.MaxSum))
		stamped(t, c, 2, at)
	}
	takes(t, c, 3, carries(3, 0))
	stamped(t, c, 3, 3)
}

// P18.1: thousandths, those that are none as the nearest ones.
func TestLimit(t *testing.T) {
	c := table(t, ways()...)
	for _, x := range []struct{ id, permille, n int }{
		{2, 950, 190}, {2, 0, 0}, {2, 1, 0}, {2, 4, 0}, {2, 5, 1}, {2, 999, 199}, {2, 1000, 200}, {2, 1001, 200}, {2, math.MaxInt, 200}, {2, -1, 0}, {2, math.MinInt, 0},
		{5, 1, 0}, {5, 2, 1}, {5, 3, 1}, {5, 999, 499}, {5, 1000, 500}, {1, 1000, 0}, {1, 0, 0},
		{api.Max32, 1000, api.MaxSum}, {api.Max32, 999, 8998192055486250}, {api.Max32, 1, api.MaxSum / 1000}, {api.Max32, 5000, api.MaxSum}, {api.Max32, -5, 0},
		{0, 1000, 0}, {3, 1000, 0}, {-1, 1000, 0}, {api.Max32 + 1, 1000, 0},
	} {
		if n := c.Limit(x.id, x.permille); n != x.n {
			t.Error(x, n)
		}
	}
	takes(t, c, 0, carries(0, 0, drain(5, 500), carry(2, 40), drain(api.Max32, api.MaxSum)))
	for _, x := range []struct{ id, permille, n int }{{5, 1000, 0}, {5, 500, 0}, {5, math.MaxInt, 0}, {2, 1000, 40}, {2, 950, 38}, {api.Max32, 1000, 0}} {
		if n := c.Limit(x.id, x.permille); n != x.n {
			t.Error(x, n)
		}
	}
	takes(t, c, 0, carries(1, 0, carry(5, 500)))
	if n := c.Limit(5, 500); n != 250 {
		t.Error(n)
	}
}

// many are n interfaces' capacities.
func many(n int) []api.Carry {
	var l []api.Carry
	for id := range n {
		l = append(l, drain(n-id, id))
	}
	return l
}

// P18.1: what may be said; ErrNone of interfaces that are not in the table, behind ErrArg.
func TestCheck(t *testing.T) {
	var all []api.Iface
	for id := range api.MaxIfaces {
		all = append(all, api.Iface{ID: id + 1, Net: addr.Make(uint32(id)<<24, 8)})
	}
	for _, x := range []struct {
		c    api.Carries
		e, f api.Errno
	}{
		{api.Carries{}, api.OK, api.OK}, {carries(15, api.MaxSum, carry(1, 0)), api.OK, api.OK},
		{carries(-1, 0), api.ErrArg, api.ErrArg}, {carries(16, 0), api.ErrArg, api.ErrArg}, {carries(math.MinInt, 0), api.ErrArg, api.ErrArg},
		{carries(math.MaxInt, 0), api.ErrArg, api.ErrArg}, {carries(0, -1), api.ErrArg, api.ErrArg}, {carries(0, api.MaxSum+1), api.ErrArg, api.ErrArg},
		{carries(0, math.MinInt), api.ErrArg, api.ErrArg}, {carries(0, math.MaxInt), api.ErrArg, api.ErrArg},
		{carries(0, 0, carry(1, api.MaxSum), drain(256, 0)), api.OK, api.OK}, {carries(0, 0, carry(1, api.MaxSum+1)), api.ErrArg, api.ErrArg},
		{carries(0, 0, carry(1, -1)), api.ErrArg, api.ErrArg}, {carries(0, 0, drain(1, -1)), api.ErrArg, api.ErrArg}, {carries(0, 0, carry(1, math.MaxInt)), api.ErrArg, api.ErrArg},
		{carries(0, 0, carry(1, 5), carry(1, 5)), api.ErrArg, api.ErrArg}, {carries(0, 0, carry(1, 5), carry(2, 5), drain(1, 6)), api.ErrArg, api.ErrArg},
		{carries(0, 0, carry(-1, 5)), api.ErrArg, api.ErrArg}, {carries(0, 0, carry(api.Max32+1, 5)), api.ErrArg, api.ErrArg},
		{carries(0, 0, carry(1, 5), carry(math.MinInt, 5)), api.ErrArg, api.ErrArg}, {carries(0, 0, carry(math.MaxInt, 5)), api.ErrArg, api.ErrArg},
		{carries(0, 0, carry(0, 5)), api.OK, api.ErrNone}, {carries(0, 0, carry(1, 5), carry(257, 5)), api.OK, api.ErrNone}, {carries(0, 0, carry(api.Max32, 5), carry(1, 5)), api.OK, api.ErrNone},
		{carries(0, 0, carry(0, 5), carry(1, -1)), api.ErrArg, api.ErrArg}, {carries(0, 0, carry(0, 5), carry(0, 5)), api.ErrArg, api.ErrArg},
		{carries(0, 0, many(api.MaxIfaces)...), api.OK, api.OK}, {carries(0, 0, many(api.MaxIfaces+1)...), api.ErrArg, api.ErrArg},
	} {
		if e := capa.Check(x.c); e != x.e {
			t.Error(x.c, e)
		}
		if e := table(t, all...).Take(x.c, 0); e != x.f {
			t.Error(x.c, e)
		}
	}
}

// P18.1, P18.2: ErrArg, then ErrNone, then ErrOld; what is not taken changes nothing.
func TestRefused(t *testing.T) {
	c := table(t, ways()...)
	takes(t, c, 10, carries(1, 5, drain(2, 70)))
	for _, x := range []struct {
		c   api.Carries
		now int
		e   api.Errno
	}{
		{carries(1, 5, carry(2, 1)), 30, api.ErrOld}, {carries(1, 0, carry(5, 1)), 30, api.ErrOld}, {carries(1, 5), 30, api.ErrOld},
		{carries(1, 6, carry(2, 1)), -1, api.ErrArg}, {carries(1, 6, carry(2, 1)), api.MaxSum + 1, api.ErrArg}, {carries(1, 6), math.MinInt, api.ErrArg},
		{carries(1, 6), math.MaxInt, api.ErrArg}, {carries(1, 5), -1, api.ErrArg}, {carries(1, 6, carry(3, 1)), -1, api.ErrArg},
		{carries(1, 6, carry(2, 1), carry(3, 1)), 30, api.ErrNone}, {carries(1, 6, carry(3, 1), carry(2, 1)), 30, api.ErrNone}, {carries(1, 5, carry(3, 1)), 30, api.ErrNone},
		{carries(2, 0, carry(0, 1)), 30, api.ErrNone}, {carries(2, 0, carry(2, 1), carry(2, 1)), 30, api.ErrArg}, {carries(2, 0, carry(2, 1), carry(5, -1)), 30, api.ErrArg},
		{carries(16, 6), 30, api.ErrArg}, {carries(-1, 6), 30, api.ErrArg}, {carries(1, -1), 30, api.ErrArg},
	} {
		if e := c.Take(x.c, x.now); e != x.e {
			t.Error(x, e)
		}
		bears(t, c, carry(1, 0), drain(2, 70), carry(5, 500), carry(api.Max32, api.MaxSum))
		stamped(t, c, 1, 10)
		stamped(t, c, 2, -1)
	}
	takes(t, c, api.MaxSum, carries(1, 6, carry(2, 80)))
	stamped(t, c, 1, api.MaxSum)
	bears(t, c, carry(1, 0), carry(2, 80), carry(5, 500), carry(api.Max32, api.MaxSum))
}

// P18.1: of a nil Capa, and alike of one that New did not make; no table, no Capa.
func TestNil(t *testing.T) {
	if c, e := capa.New(nil); c != nil || e != api.ErrArg {
		t.Error(c, e)
	}
	for _, c := range []*capa.Capa{nil, new(capa.Capa)} {
		for _, x := range []api.Carries{{}, carries(0, 1, carry(1, 1)), carries(-1, -1), carries(16, 0)} {
			for _, now := range []int{-1, 0, 1} {
				if e := c.Take(x, now); e != api.ErrClosed {
					t.Error(x, now, e)
				}
			}
		}
		for _, n := range []int{math.MinInt, -1, 0, 1, 15, 16, math.MaxInt} {
			without(t, c, n)
			stamped(t, c, n, -1)
		}
		if len(c.All()) != 0 {
			t.Error(c.All())
		}
	}
}

// R3: a Capa keeps no list that was handed in, changes none, and shares none that it gave out.
func TestShares(t *testing.T) {
	c := table(t, ways()...)
	l := []api.Carry{carry(5, 50), carry(2, 20), carry(1, 10)}
	takes(t, c, 0, carries(0, 0, l[:2]...))
	if !slices.Equal(l, []api.Carry{carry(5, 50), carry(2, 20), carry(1, 10)}) {
		t.Error(l)
	}
	l[0], l[1] = carry(1, 9), drain(2, 9)
	bears(t, c, carry(1, 0), carry(2, 20), carry(5, 50), carry(api.Max32, api.MaxSum))
	a := c.All()
	a[0], a[1].Cap = carry(7, 7), 8
	_ = append(a[:2], carry(9, 9))
	bears(t, c, carry(1, 0), carry(2, 20), carry(5, 50), carry(api.Max32, api.MaxSum))
}

// R5: two Capas of one table hold what was said to each of them alone.
func TestTwo(t *testing.T) {
	h, _ := hop.New(ways())
	x, _ := capa.New(h)
	y, _ := capa.New(h)
	takes(t, x, 5, carries(0, 3, carry(2, 1)))
	takes(t, y, 6, carries(0, 2, carry(5, 1)))
	bears(t, x, carry(1, 0), carry(2, 1), carry(5, 500), carry(api.Max32, api.MaxSum))
	bears(t, y, carry(1, 0), carry(2, 200), carry(5, 1), carry(api.Max32, api.MaxSum))
	stamped(t, x, 0, 5)
	stamped(t, y, 0, 6)
	if !slices.Contains(h.All(), ways()[0]) || h.Len() != 4 {
		t.Error(h.All())
	}
}

// next is a number that hangs on the seed alone.
func next(seed *uint64) int {
	*seed = *seed*6364136223846793005 + 1442695040888963407
	return int(*seed >> 33)
}

// said is what was taken, and when.
type said struct {
	x   api.Carries
	now int
}

// last is the last one that holds, of all that was taken.
func last(l []said, holds func(s said) bool) (said, bool) {
	for i := len(l) - 1; i >= 0; i-- {
		if holds(l[i]) {
			return l[i], true
		}
	}
	return said{}, false
}

// by holds of what a source said.
func by(source int) func(s said) bool {
	return func(s said) bool { return s.x.Source == source }
}

// of is what s says of an interface.
func of(s said, id int) (api.Carry, bool) {
	i := slices.IndexFunc(s.x.L, func(y api.Carry) bool { return y.Iface == id })
	if i < 0 {
		return api.Carry{}, false
	}
	return s.x.L[i], true
}

// model is what an interface carries by all that was taken, as the chapter's words say.
func model(l []said, x api.Iface) api.Carry {
	s, is := last(l, func(s said) bool {
		_, is := of(s, x.ID)
		return is
	})
	if !is {
		return carry(x.ID, x.Cap)
	}
	y, _ := of(s, x.ID)
	return y
}

// refuses is what the chapter's words say of one more.
func refuses(l []said, x api.Carries, now int) api.Errno {
	odd, strange := now < 0 || x.Seq < 0 || x.Source > 15 || x.Source < 0, false
	for i, y := range x.L {
		odd = odd || y.Cap < 0 || slices.ContainsFunc(x.L[:i], func(z api.Carry) bool { return z.Iface == y.Iface })
		strange = strange || !slices.ContainsFunc(ways(), func(z api.Iface) bool { return z.ID == y.Iface })
	}
	s, is := last(l, by(x.Source))
	switch {
	case odd:
		return api.ErrArg
	case strange:
		return api.ErrNone
	case is && x.Seq <= s.x.Seq:
		return api.ErrOld
	}
	return api.OK
}

// anyCarries mostly may be taken.
func anyCarries(seed *uint64, seq int) api.Carries {
	x := carries(next(seed)%3, seq)
	if next(seed)%20 == 0 {
		x.Source = []int{-1, 15, 16}[next(seed)%3]
	}
	for _, id := range []int{api.Max32, 1, 5, 2} {
		if next(seed)%3 == 0 {
			x.L = append(x.L, api.Carry{Iface: id, Cap: next(seed) % 1000, Drain: next(seed)%3 == 0})
		}
	}
	switch next(seed) % 30 {
	case 0:
		x.L = append(x.L, carry(3, 1))
	case 1:
		x.L = append(x.L, carry(5, 1))
	case 2:
		x.L = append(x.L, carry(3, -1))
	}
	return x
}

// P18.1, P18.2: anything said in any order, held against the model behind each one.
func TestModel(t *testing.T) {
	seed := uint64(18)
	for range 40 {
		c, now := table(t, ways()...), 0
		var l []said
		for seq := range 100 {
			x := anyCarries(&seed, seq-next(&seed)%2*(next(&seed)%8))
			now += next(&seed)%7 - 2
			e, f := c.Take(x, now), refuses(l, x, now)
			if e != f {
				t.Fatal(x, now, e, f)
			}
			if e == api.OK {
				l = append(l, said{x, now})
			}
			held(t, c, l, next(&seed)%1100-50)
		}
	}
}

// held asks c for all that the model knows.
func held(t *testing.T, c *capa.Capa, l []said, permille int) {
	t.Helper()
	var all []api.Carry
	for _, x := range ways() {
		y := model(l, x)
		all = append(all, y)
		n := 0
		if !y.Drain && y.Cap < api.MaxSum {
			n = y.Cap * min(max(permille, 0), 1000) / 1000
		}
		if k := c.Limit(x.ID, permille); k != n && y.Cap < api.MaxSum {
			t.Fatal(y, permille, k, n)
		}
	}
	slices.SortFunc(all, func(x, y api.Carry) int { return x.Iface - y.Iface })
	bears(t, c, all...)
	for source := range api.MaxSources {
		s, is := last(l, by(source))
		if !is {
			s.now = -1
		}
		stamped(t, c, source, s.now)
	}
}

// R1: whatever is said, no call panics, and what is answered fits together.
func FuzzTake(f *testing.F) {
	f.Add([]byte("abcdefghijklmnopqrstuvwxyz"), 1, 2, 3)
	f.Add([]byte{1, 0, 0, 0, 2, 5, 0, 1}, 16, -1, math.MaxInt)
	f.Fuzz(func(t *testing.T, data []byte, source, seq, now int) {
		h, _ := hop.New(ways())
		c, _ := capa.New(h)
		for i := 0; len(data) >= 4; i++ {
			n := min(int(data[0]%8)*3, len(data)-1) / 3
			x := carries(source+i%3, seq+i)
			for j := range n {
				b := data[1+3*j:]
				x.L = append(x.L, api.Carry{Iface: int(b[0] % 6), Cap: int(int8(b[1])), Drain: b[2]%2 == 0})
			}
			data = data[1+3*n:]
			e := c.Take(x, now+i)
			if f := capa.Check(x); f != api.OK && e != f {
				t.Fatal(x, e, f)
			}
			for _, y := range x.L {
				if z, _ := c.Get(y.Iface); e == api.OK && z != y {
					t.Fatal(y, z)
				}
			}
			if at, is := c.Stamp(x.Source); e == api.OK && (!is || at != now+i) {
				t.Fatal(x, at)
			}
		}
		for i, y := range c.All() {
			if n := c.Limit(y.Iface, source); n < 0 || n > y.Cap || y.Drain && n > 0 {
				t.Fatal(i, y, n)
			}
		}
		if len(c.All()) != 4 {
			t.Fatal(c.All())
		}
	})
}
