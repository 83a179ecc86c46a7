package best_test

import (
	"math"
	"reflect"
	"slices"
	"testing"
	"time"

	"bypath/api"
	"bypath/attr"
	"bypath/best"
)

// row and set are paths of one segment.
func row(as ...int) []api.Segment { return []api.Segment{{AS: as}} }
func set(as ...int) []api.Segment { return []api.Segment{{Set: true, AS: as}} }

// plain is a route of a router and an ID, with one change.
func plain(router, id int, change func(a *api.Attrs)) api.Route {
	r := api.Route{Key: api.Key{Router: router, ID: id}, A: api.Attrs{Path: row(7), Next: 1, Med: -1, Pref: -1}}
	if change != nil {
		change(&r.A)
	}
	return r
}

func pref(n int) func(a *api.Attrs)                   { return func(a *api.Attrs) { a.Pref = n } }
func med(n int) func(a *api.Attrs)                    { return func(a *api.Attrs) { a.Med = n } }
func origin(n int) func(a *api.Attrs)                 { return func(a *api.Attrs) { a.Origin = n } }
func path(l ...api.Segment) func(a *api.Attrs)        { return func(a *api.Attrs) { a.Path = l } }
func both(f, g func(a *api.Attrs)) func(a *api.Attrs) { return func(a *api.Attrs) { f(a); g(a) } }
func medOf(n int, as ...int) func(a *api.Attrs)       { return both(med(n), path(row(as...)...)) }

func routers(l []api.Route) []int {
	var out []int
	for _, r := range l {
		out = append(out, r.Key.Router)
	}
	return out
}

// P15.1: a route without a preference counts 100, one of 0 counts 0.
func TestPref(t *testing.T) {
	for _, x := range [][2]int{{-1, 100}, {0, 0}, {1, 1}, {99, 99}, {100, 100}, {101, 101}, {math.MaxUint32, math.MaxUint32}, {math.MaxInt, math.MaxInt}, {-2, 100}, {math.MinInt, 100}} {
		if n := best.Pref(api.Attrs{Pref: x[0], Med: 7}); n != x[1] {
			t.Error(x, n)
		}
	}
}

// P15.1: of two routes the better one is the best one wherever it stands, by the first thing in which they are unlike: routers, IDs and all that is looked at later would have it otherwise.
func TestBetter(t *testing.T) {
	worse := func(f func(a *api.Attrs)) api.Route { return plain(9, 9, f) }
	better := func(f func(a *api.Attrs)) api.Route { return plain(1, 1, f) }
	for i, x := range [][2]api.Route{
		// the preference, ahead of all others
		{worse(both(pref(101), path(row(7, 8, 9)...))), better(pref(100))},
		{worse(both(pref(101), origin(2))), better(nil)},
		{worse(nil), better(pref(99))},
		{worse(both(pref(1), med(50))), better(both(pref(0), med(-1)))},
		{worse(pref(math.MaxUint32)), better(pref(math.MaxUint32 - 1))},
		{worse(pref(math.MaxInt)), better(pref(math.MinInt))},
		// the path, ahead of Origin
		{worse(both(path(row(7)...), origin(2))), better(path(row(7, 7)...))},
		{worse(path()), better(path(row(7)...))},
		{worse(path(row(7, 8, 9)...)), better(path(row(7, 8, 9, 9)...))},
		{worse(path(set(7, 8, 9, 10)...)), better(path(row(7, 8)...))},
		{worse(path(append(row(7), set(8, 9)...)...)), better(path(append(row(7), row(8, 9)...)...))},
		// Origin, ahead of Med
		{worse(both(origin(0), med(9))), better(both(origin(1), med(1)))},
		{worse(origin(1)), better(origin(2))},
		// Med, of one AS alone, none counting 0
		{worse(med(4)), better(med(5))},
		{worse(med(-1)), better(med(1))},
		{worse(medOf(4, 7, 8)), better(medOf(5, 7, 9))},
		{worse(medOf(math.MaxUint32-1, 7)), better(medOf(math.MaxUint32, 7))},
		// routers, ahead of IDs
		{plain(1, 9, nil), plain(2, 1, nil)},
		{plain(0, 9, med(0)), plain(1, 1, med(-1))},
		{plain(1, 9, medOf(9, 7)), plain(2, 1, medOf(1, 8))},
		{plain(9, 9, nil), plain(15, 1, nil)},
		// IDs
		{plain(1, 1, nil), plain(1, 2, nil)},
		{plain(1, 0, medOf(9, 7)), plain(1, 1, medOf(1, 8))},
		{plain(1, math.MaxUint32-1, nil), plain(1, math.MaxUint32, nil)},
	} {
		for swap := range 2 {
			l := []api.Route{x[0], x[1]}
			if swap == 1 {
				slices.Reverse(l)
			}
			if at, is := best.Best(l); !is || at != swap {
				t.Error(i, swap, at, is)
			}
			if r := best.Rank(l); !reflect.DeepEqual(r, x[:]) {
				t.Error(i, swap, r)
			}
		}
	}
}

// P15.1: routes that are alike in all but what is not looked at: the first one.
func TestFirstOne(t *testing.T) {
	l := []api.Route{
		plain(3, 3, nil), plain(3, 3, func(a *api.Attrs) { a.Next = 9 }), plain(3, 3, func(a *api.Attrs) { a.Comms = []int{1} }),
		plain(3, 3, path(row(8)...)), plain(3, 3, med(0)), plain(3, 3, pref(100)),
	}
	for n := 1; n <= len(l); n++ {
		for range n {
			l = append(l[1:n:n], append([]api.Route{l[0]}, l[n:]...)...)
			if at, is := best.Best(l[:n]); !is || at != 0 {
				t.Error(n, at, is)
			}
			if r := best.Rank(l[:n]); !reflect.DeepEqual(r, l[:n]) {
				t.Error(n, r)
			}
		}
	}
	if r := best.Left(l); !reflect.DeepEqual(r, l) {
		t.Error(r)
	}
}

// P15.1: of no routes there is no best one, no rank, and none is left; one route is all of them.
func TestFew(t *testing.T) {
	for _, l := range [][]api.Route{nil, {}} {
		if at, is := best.Best(l); is || at != 0 || len(best.Rank(l)) != 0 || len(best.Left(l)) != 0 {
			t.Error(at, is)
		}
	}
	one := []api.Route{plain(15, 77, medOf(9, 1, 2, 3))}
	at, is := best.Best(one)
	if !is || at != 0 || !reflect.DeepEqual(best.Rank(one), one) || !reflect.DeepEqual(best.Left(one), one) {
		t.Error(at, is)
	}
}

// P15.1: who is left ahead of looking at routers, in order; the document's example.
func TestLeft(t *testing.T) {
	for i, x := range []struct {
		l    []api.Route
		left []int
	}{
		{[]api.Route{plain(2, 0, pref(100)), plain(1, 0, nil)}, []int{2, 1}},
		{[]api.Route{plain(2, 0, pref(100)), plain(1, 0, pref(101))}, []int{1}},
		{[]api.Route{plain(5, 0, nil), plain(4, 0, path(row(7, 7)...)), plain(3, 0, path(set(7, 7)...)), plain(2, 0, path(row(1)...))}, []int{5, 3, 2}},
		{[]api.Route{plain(5, 0, origin(2)), plain(4, 0, origin(1)), plain(3, 0, origin(1))}, []int{4, 3}},
		{[]api.Route{plain(5, 0, medOf(3, 7)), plain(4, 0, medOf(2, 8)), plain(3, 0, medOf(2, 7)), plain(2, 0, medOf(3, 8)), plain(1, 0, medOf(9, 9)), plain(0, 0, medOf(2, 7))}, []int{4, 3, 1, 0}},
		{[]api.Route{plain(5, 0, medOf(-1, 7)), plain(4, 0, medOf(0, 7)), plain(3, 0, medOf(1, 7))}, []int{5, 4}},
		// a Med counts only against those that are left: the one of 1 has a longer path
		{[]api.Route{plain(5, 0, medOf(3, 7)), plain(4, 0, medOf(1, 7, 7)), plain(3, 0, medOf(4, 7))}, []int{5}},
		// the path of none, and of a set, begins with 0 (5, First)
		{[]api.Route{plain(5, 0, both(med(2), path())), plain(4, 0, both(med(1), path()))}, []int{4}},
		{[]api.Route{plain(5, 0, both(med(2), path(set(7)...))), plain(4, 0, medOf(1, 7)), plain(3, 0, both(med(3), path(set(8)...)))}, []int{5, 4}},
		{[]api.Route{plain(5, 0, both(med(2), path(row(7, 8)...))), plain(4, 0, both(med(1), path(row(7, 9)...))), plain(3, 0, both(med(0), path(row(8, 7)...)))}, []int{4, 3}},
	} {
		if l := routers(best.Left(x.l)); !slices.Equal(l, x.left) {
			t.Error(i, l, x.left)
		}
	}
}

// P15.1: their rank is not one by pairs: a route that another one's Med leaves out comes only behind that one, however low its router is.
func TestRank(t *testing.T) {
	for i, x := range []struct {
		l    []api.Route
		rank []int
	}{
		{[]api.Route{plain(1, 0, medOf(9, 7)), plain(2, 0, medOf(0, 8)), plain(3, 0, medOf(5, 7)), plain(4, 0, medOf(0, 9))}, []int{2, 3, 1, 4}},
		{[]api.Route{plain(0, 0, medOf(3, 7)), plain(1, 0, medOf(2, 7)), plain(9, 0, medOf(1, 7)), plain(5, 0, medOf(1, 8)), plain(4, 0, medOf(2, 8)), plain(10, 0, nil)}, []int{5, 4, 10, 9, 1, 0}},
	} {
		if l := routers(best.Rank(x.l)); !slices.Equal(l, x.rank) {
			t.Error(i, l, x.rank)
		}
	}
	l := []api.Route{
		plain(0, 0, medOf(3, 7)), plain(1, 0, medOf(2, 7)), plain(9, 0, medOf(1, 7)),
		plain(4, 0, medOf(2, 8)), plain(5, 0, medOf(1, 8)),
		plain(15, 0, pref(200)), plain(2, 0, path(row(6, 6)...)), plain(3, 0, origin(2)),
	}
	if r := routers(best.Rank(l)); !slices.Equal(r, []int{15, 5, 4, 9, 1, 0, 3, 2}) {
		t.Error(r)
	}
}

// P15.2: a route that is not best may go, and another one is the best one then, if it was left out by the Med of the one that went.
func TestMedLeaves(t *testing.T) {
	l := []api.Route{plain(5, 0, medOf(1, 7)), plain(1, 0, medOf(5, 7)), plain(3, 0, medOf(9, 8))}
	if at, _ := best.Best(l); at != 2 {
		t.Error(at)
	}
	if at, _ := best.Best(l[1:]); at != 0 {
		t.Error(at)
	}
}

// next is the next number of a sequence that begins with seed.
func next(seed *uint64) int {
	*seed = *seed*6364136223846793005 + 1442695040888963407
	return int(*seed >> 33)
}

// some are n routes of few values each, so that many are alike; of unlike keys, or not.
func some(n int, unlike bool, number func(below int) int) []api.Route {
	var l []api.Route
	there := map[api.Key]bool{}
	for len(l) < n {
		r := plain(number(4), number(3), nil)
		if unlike {
			r.Key.ID = number(4 * n)
		}
		if unlike && there[r.Key] {
			r.Key.ID = 4*n + len(l)
		}
		there[r.Key] = true
		r.A.Pref = []int{-1, -1, -1, 100, 99}[number(5)]
		r.A.Path = [][]api.Segment{row(7), row(8), row(7, 8), row(8, 8), nil, set(7, 8), append(row(7), set(7, 9)...)}[number(7)]
		r.A.Origin = max(number(4)-2, 0)
		r.A.Med = number(4) - 1
		r.A.Next = uint32(len(l))
		l = append(l, r)
	}
	return l
}

// better tells whether something looked at ahead of routers leaves s out as long as r is there.
func better(r, s api.Route) bool {
	a, b := r.A, s.A
	switch n, m := attr.Length(a), attr.Length(b); {
	case best.Pref(a) != best.Pref(b):
		return best.Pref(a) > best.Pref(b)
	case n != m:
		return n < m
	case a.Origin != b.Origin:
		return a.Origin < b.Origin
	}
	return attr.First(a) == attr.First(b) && max(a.Med, 0) < max(b.Med, 0)
}

// left is the model of Left: the places of those that no other one leaves out.
func left(l []api.Route) []int {
	var out []int
	for i, s := range l {
		if !slices.ContainsFunc(l, func(r api.Route) bool { return better(r, s) }) {
			out = append(out, i)
		}
	}
	return out
}

// bestOf is the model of Best.
func bestOf(l []api.Route) int {
	return slices.MinFunc(left(l), func(i, j int) int {
		k, m := l[i].Key, l[j].Key
		return slices.Compare([]int{k.Router, k.ID, i}, []int{m.Router, m.ID, j})
	})
}

// rank is the model of Rank: the best one is taken off again and again.
func rank(l []api.Route) []api.Route {
	var out []api.Route
	for l = slices.Clone(l); len(l) > 0; {
		i := bestOf(l)
		out = append(out, l[i])
		l = slices.Delete(l, i, i+1)
	}
	return out
}

// check holds all that is answered of l against the model.
func check(t *testing.T, l []api.Route) {
	t.Helper()
	if at, is := best.Best(l); !is || at != bestOf(l) {
		t.Fatal(l, at, is)
	}
	var want []api.Route
	for _, i := range left(l) {
		want = append(want, l[i])
	}
	if got := best.Left(l); !reflect.DeepEqual(got, want) {
		t.Fatal(l, got, want)
	}
	if got, want := best.Rank(l), rank(l); !reflect.DeepEqual(got, want) {
		t.Fatal(l, got, want)
	}
}

// P15.1: any routes, also of like keys, against the model.
func TestAny(t *testing.T) {
	seed := uint64(1)
	for i := range 3000 {
		check(t, some(1+i%13, i%2 == 0, func(below int) int { return next(&seed) % below }))
	}
}

// P15.2: in whatever order routes of unlike keys stand, the best one, their rank, and who is left, is the same.
func TestOrder(t *testing.T) {
	seed := uint64(2)
	number := func(below int) int { return next(&seed) % below }
	for i := range 400 {
		l := some(2+i%11, true, number)
		at, _ := best.Best(l)
		one, all, some := l[at], best.Rank(l), best.Left(l)
		for range 8 {
			for j := range l {
				k := number(j + 1)
				l[j], l[k] = l[k], l[j]
			}
			if at, is := best.Best(l); !is || !reflect.DeepEqual(l[at], one) {
				t.Fatal(l, at, one)
			}
			if r := best.Rank(l); !reflect.DeepEqual(r, all) {
				t.Fatal(l, r, all)
			}
			if r := best.Rank(best.Left(l)); !reflect.DeepEqual(r, best.Rank(some)) {
				t.Fatal(l, r)
			}
		}
	}
}

// P15.2: a route that is not best may go, and the best one stays, if no route is left out by its Med alone.
func TestGoes(t *testing.T) {
	seed := uint64(3)
	tried := 0
	for i := range 2000 {
		l := some(2+i%6, true, func(below int) int { return next(&seed) % below })
		at, _ := best.Best(l)
		for j := range l {
			l := slices.Clone(l)
			one, gone := l[at], l[j]
			l = slices.Delete(l, j, j+1)
			alone := func(s api.Route) bool {
				return better(gone, s) && !slices.ContainsFunc(l, func(r api.Route) bool { return better(r, s) })
			}
			if j == at || slices.ContainsFunc(l, alone) {
				continue
			}
			tried++
			if k, is := best.Best(l); !is || !reflect.DeepEqual(l[k], one) {
				t.Fatal(l, k, one)
			}
		}
	}
	if tried < 1000 {
		t.Error(tried)
	}
}

// P15.1: each route in rank is the best one of those from it on.
func TestFromItOn(t *testing.T) {
	seed := uint64(4)
	for i := range 300 {
		l := best.Rank(some(20+i%20, i%2 == 0, func(below int) int { return next(&seed) % below }))
		for j := range l {
			if at, is := best.Best(l[j:]); !is || at != 0 {
				t.Fatal(l, j, at)
			}
		}
	}
}

// R1: attributes that may not be are looked at by the same rules.
func TestWrong(t *testing.T) {
	ends := []int{math.MinInt, math.MinInt + 1, -5, -1, 0, 1, 100, math.MaxInt}
	seed := uint64(5)
	for i := range 2000 {
		l := some(1+i%7, false, func(below int) int { return next(&seed) % below })
		for j := range l {
			a, k := &l[j].A, &l[j].Key
			for _, n := range []*int{&a.Pref, &a.Origin, &a.Med, &k.Router, &k.ID, &k.P.Len} {
				if next(&seed)%3 == 0 {
					*n = ends[next(&seed)%len(ends)]
				}
			}
			a.Path = append(slices.Clone(a.Path), api.Segment{}, api.Segment{Set: true}, api.Segment{AS: []int{math.MinInt, math.MaxInt}})[next(&seed)%2:]
		}
		check(t, l)
	}
}

// R3: what is handed in is not changed, nor what lies behind its end; what is answered shares nothing with it.
func TestShared(t *testing.T) {
	made := func() []api.Route {
		l := []api.Route{plain(3, 0, med(2)), plain(2, 0, nil), plain(1, 0, pref(50)), plain(0, 0, nil), plain(9, 9, nil)}
		for i := range l {
			l[i].A.Comms = []int{1, 2}
			l[i].A.Path = append(row(7, 8), set(9)...)
		}
		return l
	}
	l := made()
	r, m := best.Rank(l[:4]), best.Left(l[:4])
	best.Best(l[:4])
	if !reflect.DeepEqual(l, made()) {
		t.Fatal("changed", l)
	}
	for _, x := range slices.Concat(r, m) {
		x.A.Comms[0], x.A.Path[0].AS[0] = -1, -1
		x.A.Path[1] = api.Segment{}
	}
	_, _ = append(r, api.Route{}), append(m, api.Route{})
	if !reflect.DeepEqual(l, made()) {
		t.Error("shared", l)
	}
}

// R1: of as many routes as there may be the rank is there soon.
func TestMany(t *testing.T) {
	seed := uint64(6)
	l := some(api.MaxRoutes, true, func(below int) int { return next(&seed) % below })
	begun := time.Now()
	r := best.Rank(l)
	if took := time.Since(begun); took > 20*time.Second {
		t.Error(took)
	}
	for _, i := range []int{0, 1, 100, len(l) / 2, len(l) - 100, len(l) - 1} {
		if at, is := best.Best(r[i:]); !is || at != 0 {
			t.Error(i, at)
		}
	}
	if len(r) != len(l) {
		t.Error(len(r))
	}
}

// P15.1: routes by any bytes, against the model.
func FuzzBest(f *testing.F) {
	f.Add([]byte("any bytes, one behind the other, as numbers"))
	f.Fuzz(func(t *testing.T, b []byte) {
		number := func(below int) int {
			if len(b) == 0 {
				return 0
			}
			n := int(b[0]) % below
			b = b[1:]
			return n
		}
		check(t, some(1+number(24), number(2) == 0, number))
	})
}
