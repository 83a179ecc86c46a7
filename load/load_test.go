package load_test

import (
	"math"
	"reflect"
	"slices"
	"testing"

	"bypath/api"
	"bypath/load"
)

// goes asks for all loads, each one by itself too.
func goes(t *testing.T, l *load.Loads, want ...api.Load) {
	t.Helper()
	if all := l.All(); !slices.Equal(all, want) {
		t.Error(all, "but not", want)
	}
	for _, x := range want {
		if n := l.Of(x.Iface); n != x.N {
			t.Error(x, n)
		}
	}
}

// over asks whether l are over, as Fits tells it too.
func over(t *testing.T, l *load.Loads, want bool) {
	t.Helper()
	if l.Over() != want || l.Fits(77, 0, 0) == want {
		t.Error(l.Over(), l.Fits(77, 0, 0), l.All())
	}
}

// odd are numbers of interfaces, and others, that stand at an edge.
func odd() []int {
	return []int{math.MinInt, -api.MaxSum, -2, -1, 0, 1, 5, api.Max32, api.MaxSum - 1, api.MaxSum, api.MaxSum + 1, math.MaxInt}
}

// P21.1: at first nothing goes out.
func TestNew(t *testing.T) {
	l := load.New()
	goes(t, l)
	over(t, l, false)
	for _, iface := range odd() {
		if n := l.Of(iface); n != 0 {
			t.Error(iface, n)
		}
	}
}

// P21.1, P21.3: more and less, at least 0, by interfaces from 0 on; those of 0 are not told.
func TestAdd(t *testing.T) {
	l := load.New()
	l.Add(5, 10)
	l.Add(math.MaxInt, 1)
	l.Add(0, 7)
	l.Add(5, 20)
	goes(t, l, api.Load{Iface: 0, N: 7}, api.Load{Iface: 5, N: 30}, api.Load{Iface: math.MaxInt, N: 1})
	l.Sub(5, 29)
	l.Sub(0, 7)
	l.Sub(3, 4)
	goes(t, l, api.Load{Iface: 5, N: 1}, api.Load{Iface: math.MaxInt, N: 1})
	l.Sub(5, 2)
	l.Add(3, 4)
	goes(t, l, api.Load{Iface: 3, N: 4}, api.Load{Iface: math.MaxInt, N: 1})
	l.Add(0, 0)
	l.Sub(0, 0)
	goes(t, l, api.Load{Iface: 3, N: 4}, api.Load{Iface: math.MaxInt, N: 1})
	if l.Of(0) != 0 || l.Of(5) != 0 || l.Of(4) != 0 {
		t.Error(l.Of(0), l.Of(5), l.Of(4))
	}
	over(t, l, false)
}

// P21.1: numbers below 0 are 0.
func TestBelow(t *testing.T) {
	l := load.New()
	l.Add(1, 10)
	for _, n := range []int{-1, -10, -api.MaxSum, math.MinInt} {
		for _, iface := range []int{-1, 0, 1} {
			l.Add(iface, n)
			l.Sub(iface, n)
		}
		if !l.Fits(1, n, 10) || l.Fits(1, n, 9) {
			t.Error(n)
		}
	}
	goes(t, l, api.Load{Iface: 1, N: 10})
	over(t, l, false)
}

// P21.1: nothing goes out by interfaces below 0.
func TestNoIface(t *testing.T) {
	l := load.New()
	for _, iface := range []int{-1, -2, math.MinInt} {
		l.Add(iface, 10)
		l.Add(iface, api.MaxSum-1)
		l.Sub(iface, 5)
		if n := l.Of(iface); n != 0 {
			t.Error(iface, n)
		}
		if l.Fits(iface, 0, 0) || l.Fits(iface, 5, math.MaxInt) || l.Fits(iface, -1, 5) {
			t.Error(iface)
		}
	}
	goes(t, l)
	over(t, l, false)
}

// P21.1: a number that is MaxSum, or beyond, makes them over, wherever it is put, or taken away; nothing else is done below 0.
func TestOverNumber(t *testing.T) {
	for _, n := range []int{api.MaxSum, api.MaxSum + 1, math.MaxInt} {
		for _, iface := range []int{math.MinInt, -1, 0, 1, math.MaxInt} {
			l := load.New()
			l.Add(1, 5)
			l.Add(iface, n)
			over(t, l, true)
			switch {
			case iface < 0:
				goes(t, l, api.Load{Iface: 1, N: 5})
			case iface == 1:
				goes(t, l, api.Load{Iface: 1, N: api.MaxSum})
			case iface == 0:
				goes(t, l, api.Load{Iface: 0, N: api.MaxSum}, api.Load{Iface: 1, N: 5})
			}
			l = load.New()
			l.Add(1, 5)
			l.Sub(iface, n)
			over(t, l, true)
			if iface == 1 {
				goes(t, l)
			} else {
				goes(t, l, api.Load{Iface: 1, N: 5})
			}
		}
	}
	l := load.New()
	l.Add(1, api.MaxSum-1)
	l.Sub(2, api.MaxSum-1)
	l.Add(-1, api.MaxSum-1)
	l.Sub(-1, api.MaxSum-1)
	goes(t, l, api.Load{Iface: 1, N: api.MaxSum - 1})
	over(t, l, false)
}

// P21.1: a sum that is MaxSum, or beyond, makes them over; sums of unlike interfaces are not put together. They stay over.
func TestOverSum(t *testing.T) {
	for _, x := range []struct {
		a, b int
		want bool
	}{
		{api.MaxSum - 1, 0, false}, {api.MaxSum - 1, 1, true}, {api.MaxSum - 1, 2, true}, {api.MaxSum - 1, api.MaxSum - 1, true}, {api.MaxSum / 2, api.MaxSum / 2, false},
		{api.MaxSum/2 + 1, api.MaxSum / 2, true}, {1, api.MaxSum - 2, false}, {1, api.MaxSum - 1, true},
	} {
		l := load.New()
		l.Add(4, x.a)
		over(t, l, false)
		l.Add(5, x.b)
		over(t, l, false)
		l.Add(4, x.b)
		over(t, l, x.want)
		if n := l.Of(4); n != min(x.a+x.b, api.MaxSum) {
			t.Error(x, n)
		}
		l.Sub(4, x.a)
		l.Sub(5, x.b)
		l.Sub(4, x.b)
		l.Add(6, 1)
		over(t, l, x.want)
		goes(t, l, api.Load{Iface: 6, N: 1})
	}
}

// P21.1: up to a limit, and no further.
func TestFits(t *testing.T) {
	l := load.New()
	l.Add(1, 10)
	l.Add(0, 3)
	for _, x := range []struct {
		iface, n, limit int
		want            bool
	}{
		{1, 0, 10, true}, {1, 0, 9, false}, {1, 5, 15, true}, {1, 6, 15, false}, {1, 5, 5, false},
		{0, 0, 3, true}, {0, 1, 3, false}, {0, 1, 4, true}, {2, 0, 0, true}, {2, 1, 0, false}, {2, 1, 1, true},
		{2, 0, -1, false}, {2, -5, -1, false}, {2, -5, 0, true}, {2, 5, math.MinInt, false}, {math.MaxInt, 5, 5, true}, {math.MaxInt, 6, 5, false},
		{2, api.MaxSum, api.MaxSum, true}, {2, api.MaxSum, api.MaxSum - 1, false}, {2, math.MaxInt, api.MaxSum, true}, {2, math.MaxInt, math.MaxInt, true},
		{1, api.MaxSum - 11, api.MaxSum - 1, true}, {1, api.MaxSum - 10, api.MaxSum - 1, false}, {1, api.MaxSum - 9, api.MaxSum - 1, false}, {1, math.MaxInt, api.MaxSum - 1, false},
		{1, api.MaxSum - 10, api.MaxSum, true}, {1, api.MaxSum - 9, api.MaxSum, true}, {1, api.MaxSum, api.MaxSum, true}, {1, math.MaxInt, api.MaxSum, true},
		{1, math.MaxInt, api.MaxSum + 1, true}, {1, math.MaxInt, math.MaxInt, true}, {-1, 0, 0, false}, {-1, 0, math.MaxInt, false}, {-1, math.MaxInt, math.MaxInt, false},
		{math.MinInt, 0, math.MaxInt, false},
	} {
		if got := l.Fits(x.iface, x.n, x.limit); got != x.want {
			t.Error(x, got)
		}
	}
	goes(t, l, api.Load{Iface: 0, N: 3}, api.Load{Iface: 1, N: 10})
	over(t, l, false)
	l.Add(-1, api.MaxSum)
	if l.Fits(1, 0, 10) || l.Fits(2, 0, math.MaxInt) || l.Fits(1, 0, math.MaxInt) {
		t.Error("they are over")
	}
}

// P21.1: what fits is what Add then makes of a load: up to MaxSum, and no further.
func TestFitsCapped(t *testing.T) {
	for _, had := range []int{0, 1, api.MaxSum / 2, api.MaxSum/2 + 1, api.MaxSum - 40, api.MaxSum - 1} {
		for _, n := range append(odd(), 40, 41, api.MaxSum/2, api.MaxSum/2+1) {
			l := load.New()
			l.Add(3, had)
			var fits []bool
			for _, limit := range odd() {
				fits = append(fits, l.Fits(3, n, limit))
			}
			over(t, l, false)
			l.Add(3, n)
			for i, limit := range odd() {
				if fits[i] != (l.Of(3) <= limit) {
					t.Error(had, n, limit, fits[i])
				}
			}
		}
	}
}

// P21.1: of nil Loads, and alike of those that New did not make.
func TestNil(t *testing.T) {
	for _, l := range []*load.Loads{nil, new(load.Loads)} {
		for _, n := range odd() {
			for _, iface := range odd() {
				l.Add(iface, n)
				l.Sub(iface, n)
				if l.Fits(iface, n, math.MaxInt) || l.Of(iface) != 0 {
					t.Error(iface, n)
				}
			}
		}
		goes(t, l)
		over(t, l, true)
	}
}

// R3, R4: what All answers is its own, and hangs on no order.
func TestAll(t *testing.T) {
	l := load.New()
	var want []api.Load
	for i := range 200 {
		l.Add(i*77%200, i*77%200+1)
		want = append(want, api.Load{Iface: i, N: i + 1})
	}
	goes(t, l, want...)
	all := l.All()
	all[0], all[1].N = api.Load{Iface: 9, N: 9}, 0
	_ = append(all[:5], api.Load{})
	goes(t, l, want...)
}

// P21.1: two Loads have nothing to do with each other.
func TestTwo(t *testing.T) {
	l, m := load.New(), load.New()
	l.Add(1, 5)
	m.Add(1, api.MaxSum)
	m.Sub(1, 6)
	goes(t, l, api.Load{Iface: 1, N: 5})
	goes(t, m, api.Load{Iface: 1, N: api.MaxSum - 6})
	over(t, l, false)
	over(t, m, true)
}

// option is a route's, by an interface, with lists that have something.
func option(iface int) api.Option {
	return api.Option{Iface: iface, R: api.Route{
		Key: api.Key{Router: 1, P: api.Prefix{Addr: 10 << 24, Len: 8}, ID: iface},
		A:   api.Attrs{Path: []api.Segment{{AS: []int{7, iface}}, {Set: true, AS: []int{8}}}, Next: 5, Med: -1, Pref: 9, Comms: []int{iface, 3}},
	}}
}

// want takes what stands at a place, of a first choice by the interface 1 and two detours by 2 and 3.
func want(n, at int) api.Want {
	return api.Want{P: api.Prefix{Addr: 10 << 24, Len: 8}, N: n, First: option(1), Detours: []api.Option{option(2), option(3)}, At: at}
}

// P21.2: a want takes its detour at At, if there is one, else its first choice.
func TestTaken(t *testing.T) {
	for _, x := range []struct{ at, iface int }{{0, 2}, {1, 3}, {2, 1}, {-1, 1}, {-2, 1}, {3, 1}, {math.MinInt, 1}, {math.MaxInt, 1}} {
		w := want(5, x.at)
		o := load.Taken(w)
		if !reflect.DeepEqual(o, option(x.iface)) {
			t.Error(x, o)
		}
		o.R.A.Comms[0], o.R.A.Path[0].AS[0], o.R.A.Path[1] = 99, 99, api.Segment{}
		if !reflect.DeepEqual(w, want(5, x.at)) {
			t.Error("the answer shares with", w)
		}
		w.Detours = w.Detours[:0]
		if o := load.Taken(w); !reflect.DeepEqual(o, w.First) {
			t.Error("what lies behind the end", o)
		}
	}
	for _, at := range []int{-1, 0, 1} {
		if o := load.Taken(api.Want{At: at}); !reflect.DeepEqual(o, api.Option{}) {
			t.Error(at, o)
		}
		if o := load.Taken(api.Want{At: at, First: option(-1)}); o.Iface != -1 {
			t.Error(at, o)
		}
	}
}

// P21.2: the document's example, and wants that take one thing and the other.
func TestProject(t *testing.T) {
	goes(t, load.Project([]api.Want{want(5, -1), want(5, 2)}), api.Load{Iface: 1, N: 10})
	l := []api.Want{want(5, 0), want(6, 1), want(7, 9), want(-3, 0), want(0, 1), want(1, 0)}
	p := load.Project(l)
	goes(t, p, api.Load{Iface: 1, N: 7}, api.Load{Iface: 2, N: 6}, api.Load{Iface: 3, N: 6})
	over(t, p, false)
	p.Add(2, 5)
	goes(t, load.Project(l), api.Load{Iface: 1, N: 7}, api.Load{Iface: 2, N: 6}, api.Load{Iface: 3, N: 6})
	if !reflect.DeepEqual(l, []api.Want{want(5, 0), want(6, 1), want(7, 9), want(-3, 0), want(0, 1), want(1, 0)}) {
		t.Error(l)
	}
	for _, none := range [][]api.Want{nil, {}, {want(0, 0)}, {want(-1, 0)}} {
		goes(t, load.Project(none))
		over(t, load.Project(none), false)
	}
}

// P21.2: wants that go out by no interface count for being over alone.
func TestProjectOver(t *testing.T) {
	lost := api.Want{N: api.MaxSum - 1, First: option(-1), At: -1}
	p := load.Project([]api.Want{want(3, 0), lost, lost})
	goes(t, p, api.Load{Iface: 2, N: 3})
	over(t, p, false)
	lost.N++
	p = load.Project([]api.Want{lost, want(3, 0)})
	goes(t, p, api.Load{Iface: 2, N: 3})
	over(t, p, true)
	over(t, load.Project([]api.Want{want(api.MaxSum-1, 0), want(api.MaxSum-1, 1), want(api.MaxSum-1, -1)}), false)
	over(t, load.Project([]api.Want{want(api.MaxSum-1, 0), want(1, 1), want(1, 0)}), true)
	over(t, load.Project([]api.Want{want(math.MaxInt, 0)}), true)
}

// next is a number that hangs on the seed alone.
func next(seed *uint64) int {
	*seed = *seed*6364136223846793005 + 1442695040888963407
	return int(*seed >> 33)
}

// model is loads as plain sums.
type model struct {
	by   [5]int
	over bool
}

// change adds n to the load of an interface, or takes it away.
func (m *model) change(iface, n int, less bool) {
	n = min(max(n, 0), api.MaxSum)
	m.over = m.over || n == api.MaxSum
	if iface < 0 {
		return
	}
	if less {
		n = -n
	}
	m.by[iface] = min(max(m.by[iface]+n, 0), api.MaxSum)
	m.over = m.over || m.by[iface] == api.MaxSum
}

// P21.1, P21.3: anything added and taken away, held against plain sums behind each call.
func TestModel(t *testing.T) {
	seed := uint64(21)
	for round := range 300 {
		l, m := load.New(), model{}
		for range 60 {
			iface, n, less := next(&seed)%6-1, next(&seed)%100-10, next(&seed)%3 == 0
			if round%3 == 0 && next(&seed)%20 == 0 {
				n = odd()[next(&seed)%len(odd())]
			}
			m.change(iface, n, less)
			if less {
				l.Sub(iface, n)
			} else {
				l.Add(iface, n)
			}
			held(t, l, m, 20, next(&seed)%300-20)
			held(t, l, m, odd()[next(&seed)%len(odd())], odd()[next(&seed)%len(odd())])
		}
	}
}

// held asks l for all that the model knows, and whether n more fits up to a limit.
func held(t *testing.T, l *load.Loads, m model, n, limit int) {
	t.Helper()
	var all []api.Load
	for iface, had := range m.by {
		if had > 0 {
			all = append(all, api.Load{Iface: iface, N: had})
		}
		sum := min(had+min(max(n, 0), api.MaxSum), api.MaxSum)
		if l.Fits(iface, n, limit) != (!m.over && sum <= limit) {
			t.Fatal(iface, n, limit, m)
		}
	}
	if !slices.Equal(l.All(), all) || l.Over() != m.over {
		t.Fatal(l.All(), l.Over(), m)
	}
}

// R1: whatever is added and taken away, no call panics, and what is answered fits together.
func FuzzLoads(f *testing.F) {
	f.Add(1, 2, 3, 4, 5)
	f.Add(-1, api.MaxSum, 0, api.MaxSum-1, 1)
	f.Add(math.MinInt, math.MaxInt, math.MaxInt, math.MinInt, 0)
	f.Fuzz(func(t *testing.T, i, n, j, k, limit int) {
		l := load.New()
		l.Add(i, n)
		l.Add(j, k)
		fits := l.Fits(i, k, limit)
		l.Sub(j, n)
		l.Add(j, n)
		l.Add(i, k)
		if fits && i != j && l.Of(i) > limit {
			t.Fatal(l.Of(i))
		}
		for _, x := range l.All() {
			if x.Iface != i && x.Iface != j || x.Iface < 0 || x.N < 1 || x.N > api.MaxSum || x.N != l.Of(x.Iface) || x.N == api.MaxSum && !l.Over() {
				t.Fatal(x)
			}
		}
		w := api.Want{N: n, First: api.Option{Iface: i}, Detours: []api.Option{{Iface: j}}, At: k}
		if p := load.Project([]api.Want{w}); p.Of(load.Taken(w).Iface) > max(n, 0) || p.Over() != (n >= api.MaxSum) {
			t.Fatal(p.All())
		}
	})
}
