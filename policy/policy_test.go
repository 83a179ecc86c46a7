package policy_test

import (
	"math"
	"reflect"
	"slices"
	"testing"
	"time"

	"bypath/addr"
	"bypath/api"
	"bypath/attr"
	"bypath/best"
	"bypath/capa"
	"bypath/conf"
	"bypath/hop"
	"bypath/policy"
)

// home is the prefix that routes go to.
var home = api.Prefix{Addr: 20 << 24, Len: 8}

// tables are the interfaces 0, 1, 2 of the router 0, 3 of the router 1, and what they carry; drained ones are to be left.
func tables(t *testing.T, drained ...int) (*hop.Hops, *capa.Capa) {
	t.Helper()
	h, e := hop.New([]api.Iface{
		{ID: 1, Net: addr.Make(10<<24, 8), Cap: 9}, {ID: 2, Net: addr.Make(11<<24, 8), Cap: 9}, {ID: 0, Net: addr.Make(10<<24|1<<16, 16), Cap: 9},
		{ID: 3, Router: 1, Net: addr.Make(10<<24, 8), Cap: 0},
	})
	if e != api.OK {
		t.Fatal(e)
	}
	x, e := capa.New(h)
	if e != api.OK {
		t.Fatal(e)
	}
	drain(t, x, 0, drained...)
	return h, x
}

// drain lets interfaces be left, by a report of a number.
func drain(t *testing.T, x *capa.Capa, seq int, ids ...int) {
	t.Helper()
	r := api.Carries{Seq: seq}
	for _, id := range ids {
		r.L = append(r.L, api.Carry{Iface: id, Cap: 9, Drain: true})
	}
	if e := x.Take(r, 0); e != api.OK {
		t.Fatal(ids, e)
	}
}

// Next hops behind the interfaces 1, 2, 0 of the router 0 (the first and the third one behind 3 of the router 1), and behind none.
const (
	by1    = 10<<24 | 5
	by2    = 11<<24 | 5
	by0    = 10<<24 | 1<<16 | 5
	byNone = 12<<24 | 5
)

// route is one of a router and an ID, by a next hop, with a path of one segment.
func route(router, id int, next uint32, path ...int) api.Route {
	return api.Route{Key: api.Key{Router: router, P: home, ID: id}, A: api.Attrs{Path: []api.Segment{{AS: path}}, Next: next, Med: -1, Pref: -1}}
}

// with is r with what a change makes of it.
func with(r api.Route, change func(r *api.Route)) api.Route {
	change(&r)
	return r
}

func pref(n int) func(r *api.Route)     { return func(r *api.Route) { r.A.Pref = n } }
func med(n int) func(r *api.Route)      { return func(r *api.Route) { r.A.Med = n } }
func comms(l ...int) func(r *api.Route) { return func(r *api.Route) { r.A.Comms = l } }

// settings are First with Longer and Deny.
func settings(longer int, deny ...int) api.Conf {
	c := conf.First()
	c.Longer, c.Deny = longer, deny
	return c
}

// P20.1: the interface of a route's next hop, of its router; -1, if there is none.
func TestOption(t *testing.T) {
	h, _ := tables(t, 2)
	for _, x := range []struct {
		router int
		next   uint32
		iface  int
	}{
		{0, by1, 1}, {0, by2, 2}, {0, by0, 0}, {1, by1, 3}, {1, by0, 3}, {1, by2, -1}, {0, byNone, -1}, {2, by1, -1}, {0, 0, -1},
		{-1, by1, -1}, {16, by1, -1}, {math.MinInt, by1, -1}, {math.MaxInt, by1, -1},
	} {
		r := with(route(x.router, 7, x.next, 5, 6), comms(8))
		if o := policy.Option(h, r); o.Iface != x.iface || !reflect.DeepEqual(o.R, r) {
			t.Error(x, o)
		}
		if o := policy.Option(nil, r); o.Iface != -1 || !reflect.DeepEqual(o.R, r) {
			t.Error(x, o)
		}
	}
	if o := policy.Option(h, api.Route{}); o.Iface != -1 || !reflect.DeepEqual(o.R, api.Route{}) {
		t.Error(o)
	}
}

// P20.1: the first choice is the best one's option, whether it has an interface or not; there is none of no routes.
func TestFirst(t *testing.T) {
	h, _ := tables(t, 1)
	l := []api.Route{route(0, 1, by2, 7, 8), with(route(0, 2, by1, 7, 8), pref(101)), with(route(1, 3, by2, 7), pref(99))}
	for i, want := range []api.Option{{R: l[1], Iface: 1}, {R: l[0], Iface: 2}, {R: l[2], Iface: -1}} {
		if o, is := policy.First(h, l); !is || !reflect.DeepEqual(o, want) {
			t.Error(i, o, is)
		}
		if o, is := policy.First(nil, l); !is || o.Iface != -1 || !reflect.DeepEqual(o.R, want.R) {
			t.Error(i, o, is)
		}
		l = slices.DeleteFunc(l, func(r api.Route) bool { return r.Key == want.R.Key })
	}
	for _, none := range [][]api.Route{nil, {}, l} {
		for _, h := range []*hop.Hops{h, nil} {
			if o, is := policy.First(h, none); is || !reflect.DeepEqual(o, api.Option{}) {
				t.Error(o, is)
			}
		}
	}
}

// P20.1: each thing that must hold, by itself.
func TestAllowed(t *testing.T) {
	h, x := tables(t)
	from, to := route(0, 1, by1, 7), route(0, 2, by2, 7)
	for i, y := range []struct {
		change func(r *api.Route)
		ok     bool
	}{
		{func(r *api.Route) {}, true},
		// the same prefix, another key
		{func(r *api.Route) { r.Key = from.Key }, false},
		{func(r *api.Route) { r.Key.ID = 1; r.Key.Router = 1; r.A.Next = by1 }, true},
		{func(r *api.Route) { r.Key.P.Addr = 21 << 24 }, false},
		{func(r *api.Route) { r.Key.P.Len = 9 }, false},
		{func(r *api.Route) { r.Key.P.Len = 7 }, false},
		{func(r *api.Route) { r.Key.P = api.Prefix{} }, false},
		{func(r *api.Route) { r.Key.ID = -5 }, true},
		// the path
		{func(r *api.Route) { r.A.Path = nil }, true},
		{func(r *api.Route) { r.A.Path = []api.Segment{{AS: []int{1, 2, 3}}} }, true},
		{func(r *api.Route) { r.A.Path = []api.Segment{{AS: []int{1, 2, 3, 4}}} }, false},
		{func(r *api.Route) { r.A.Path = []api.Segment{{AS: []int{1}}, {AS: []int{2, 3}}} }, true},
		{func(r *api.Route) { r.A.Path = []api.Segment{{AS: []int{1, 2}}, {AS: []int{2, 3}}} }, false},
		{func(r *api.Route) { r.A.Path = []api.Segment{{AS: []int{1, 2}}, {Set: true, AS: []int{2, 3, 4}}} }, true},
		{func(r *api.Route) { r.A.Path = []api.Segment{{AS: []int{1, 2, 3}}, {Set: true, AS: []int{2}}} }, false},
		// communities
		{comms(65, 67, 0, api.Max32), true},
		{comms(66), false},
		{comms(5, 6, 7, 66), false},
		{comms(5, 77, 6), false},
		{comms(66, 77, 66), false},
		{func(r *api.Route) { r.A.Path = []api.Segment{{AS: []int{66, 77}}} }, true},
		// the interface
		{func(r *api.Route) { r.A.Next = byNone }, false},
		{func(r *api.Route) { r.A.Next = by1 }, false},
		{func(r *api.Route) { r.A.Next = 10<<24 | 99 }, false},
		{func(r *api.Route) { r.A.Next = by0 }, true},
		{func(r *api.Route) { r.Key.Router = 1 }, false},
		{func(r *api.Route) { r.Key.Router = 1; r.A.Next = by0 }, true},
		{func(r *api.Route) { r.Key.Router = 16 }, false},
		{func(r *api.Route) { r.Key.Router = -1 }, false},
		// what counts for nothing
		{func(r *api.Route) { r.A.Origin, r.A.Med = 2, 9 }, true},
		{pref(0), true},
		{pref(5000), true},
	} {
		r := with(to, y.change)
		if got := policy.Allowed(settings(2, 66, 77), h, x, from, r); got != y.ok {
			t.Error(i, r, got)
		}
		for _, got := range []bool{policy.Allowed(settings(2, 66, 77), nil, x, from, r), policy.Allowed(settings(2, 66, 77), h, nil, from, r), policy.Allowed(settings(2), nil, nil, from, r)} {
			if got {
				t.Error(i, r, "without tables")
			}
		}
	}
	if !policy.Allowed(settings(2, 66), h, x, with(from, comms(66)), to) {
		t.Error("the best one's communities count for nothing")
	}
}

// P20.1: Longer is how many AS numbers more there may be; below 0, which no settings have, so many less.
func TestLonger(t *testing.T) {
	h, x := tables(t)
	path := []int{1, 2, 3, 4, 5, 6, 7, 8, 9}
	for n := range 6 {
		for m := range 9 {
			from, to := route(0, 1, by1, path[:n]...), route(0, 2, by2, path[:m]...)
			for _, longer := range []int{math.MinInt, math.MinInt + 1, -3, -1, 0, 1, 2, 3, 255, math.MaxInt - 1, math.MaxInt} {
				want := m-n <= longer
				if got := policy.Allowed(settings(longer), h, x, from, to); got != want {
					t.Error(n, m, longer, got)
				}
			}
		}
	}
}

// P20.1: an interface that is to be left is none to go out by, until something else is said of it; the best one's may be left.
func TestDrain(t *testing.T) {
	h, x := tables(t, 2)
	from, to := route(0, 1, by1, 7), route(0, 2, by2, 7)
	if policy.Allowed(settings(2), h, x, from, to) || !policy.Allowed(settings(2), h, x, to, from) {
		t.Error("2 is to be left")
	}
	if e := x.Take(api.Carries{Seq: 1, L: []api.Carry{{Iface: 2, Cap: 0}, {Iface: 1, Cap: 5, Drain: true}}}, 0); e != api.OK {
		t.Fatal(e)
	}
	if !policy.Allowed(settings(2), h, x, from, to) || policy.Allowed(settings(2), h, x, to, from) {
		t.Error("1 is to be left")
	}
	other, e := hop.New([]api.Iface{{ID: 5}})
	y, f := capa.New(other)
	if e != api.OK || f != api.OK || !policy.Allowed(settings(2), h, y, from, to) {
		t.Error("nobody says that 2 is to be left", e, f)
	}
}

// P20.1: from a best one without an interface there are detours by all others.
func TestNoWay(t *testing.T) {
	h, x := tables(t)
	l := []api.Route{with(route(0, 1, byNone, 7), pref(200)), route(0, 2, by1, 7), route(0, 3, by2, 7), route(1, 4, by2, 7), route(0, 5, byNone, 7), route(0, 6, by0, 7)}
	asks(t, settings(2), h, x, l, 2, 3, 6)
}

// asks asks for detours of such IDs, with all that belongs to them.
func asks(t *testing.T, c api.Conf, h *hop.Hops, x *capa.Capa, l []api.Route, ids ...int) {
	t.Helper()
	var got []int
	for _, o := range policy.Detours(c, h, x, l) {
		got = append(got, o.R.Key.ID)
		i := slices.IndexFunc(l, func(r api.Route) bool { return r.Key.ID == o.R.Key.ID })
		if i < 0 || !reflect.DeepEqual(o, policy.Option(h, l[i])) {
			t.Error(o)
		}
	}
	if !slices.Equal(got, ids) {
		t.Error(got, ids)
	}
}

// P20.1: the detours in rank; the document's example.
func TestDetours(t *testing.T) {
	h, x := tables(t)
	asks(t, settings(2), h, x, []api.Route{route(0, 1, by1, 7), route(0, 2, by1, 8)})
	asks(t, settings(2), h, x, []api.Route{route(0, 1, by1, 7)})
	asks(t, settings(2), h, x, nil)
	l := []api.Route{
		with(route(0, 1, by2, 7), pref(50)), with(route(0, 2, by0, 7), pref(60)), with(route(0, 3, by1, 7), pref(300)), with(route(1, 4, by1, 7, 8), pref(60)),
		with(route(0, 5, by2, 7, 8, 9, 9), pref(250)), with(with(route(0, 6, by2, 7), comms(4, 66)), pref(70)), with(route(0, 7, by1, 7), pref(80)), with(route(0, 8, by2, 7), pref(60)),
	}
	asks(t, settings(2, 66), h, x, l, 2, 8, 4, 1)
	asks(t, settings(3, 66), h, x, l, 5, 2, 8, 4, 1)
	asks(t, settings(3), h, x, l, 5, 6, 2, 8, 4, 1)
	asks(t, settings(0), h, x, l, 6, 2, 8, 1)
	asks(t, settings(2, 66), nil, x, l)
	asks(t, settings(2, 66), h, nil, l)
	drain(t, x, 1, 0)
	asks(t, settings(2, 66), h, x, l, 8, 4, 1)
	drain(t, x, 2, 2)
	asks(t, settings(2, 66), h, x, l, 4)
	drain(t, x, 3, 3, 1)
	asks(t, settings(2, 66), h, x, l)
}

// P20.1: their rank is that of those that are allowed: one that is not leaves none behind it by its Med.
func TestRank(t *testing.T) {
	h, x := tables(t)
	l := []api.Route{
		with(route(0, 1, by1, 9), pref(200)), with(route(0, 2, by2, 7), med(5)), with(route(0, 3, by0, 8), med(9)),
		with(with(route(0, 4, by2, 7), med(1)), comms(66)),
	}
	asks(t, settings(2), h, x, l, 3, 4, 2)
	asks(t, settings(2, 66), h, x, l, 2, 3)
}

// P20.1: routes of the best one's key are none, nor are those of other prefixes, whatever stands in l.
func TestKeys(t *testing.T) {
	h, x := tables(t)
	other := func(r *api.Route) { r.Key.P = api.Prefix{Addr: 21 << 24, Len: 8} }
	l := []api.Route{route(0, 1, by1, 7), route(0, 1, by2, 7), route(0, 2, by2, 7), route(0, 2, by0, 7), with(route(0, 3, by2, 7), other)}
	d := policy.Detours(settings(2), h, x, l)
	if len(d) != 2 || d[0].Iface != 2 || d[1].Iface != 0 || d[0].R.Key != l[2].Key || d[1].R.Key != l[2].Key {
		t.Error(d)
	}
	d = policy.Detours(settings(2), h, x, []api.Route{route(0, 2, by2, 7), with(route(0, 1, by1, 7), other)})
	if len(d) != 0 {
		t.Error(d)
	}
}

// P20.2: fewer communities in Deny, and a greater Longer, allow no fewer; no detour is the best one, or goes out by its interface.
func TestMore(t *testing.T) {
	seed := uint64(20)
	number := func(below int) int {
		seed = seed*6364136223846793005 + 1442695040888963407
		return int(seed>>33) % below
	}
	for range 2000 {
		h, x := tables(t, drained(number)...)
		l := some(1+number(8), number)
		c := settings(number(4), number(4), number(4), number(4))
		few := check(t, c, h, x, l)
		c.Longer += number(3)
		c.Deny = c.Deny[number(4):]
		more := check(t, c, h, x, l)
		for _, o := range few {
			if !slices.ContainsFunc(more, func(p api.Option) bool { return reflect.DeepEqual(o, p) }) {
				t.Fatal(c, l, o, more)
			}
		}
	}
}

func drained(number func(below int) int) []int {
	var ids []int
	for id := range 4 {
		if number(5) == 0 {
			ids = append(ids, id)
		}
	}
	return ids
}

// some are n routes of few values each.
func some(n int, number func(below int) int) []api.Route {
	var l []api.Route
	for i := range n {
		r := route(number(2), i*number(4), []uint32{by1, by2, by0, byNone}[number(4)], []int{7, 8, 9, 9, 9}[number(2):2+number(4)]...)
		r.A.Med, r.A.Pref, r.A.Comms = number(4)-1, []int{-1, 100, 101}[number(3)], []int{number(9), number(9)}[number(3):2:2]
		if number(6) == 0 {
			r.Key.P.Len++
		}
		if number(4) == 0 {
			r.A.Path = append(r.A.Path, api.Segment{Set: true, AS: []int{1, 2}})
		}
		l = append(l, r)
	}
	return l
}

// allowed is the model of Allowed.
func allowed(c api.Conf, h *hop.Hops, x *capa.Capa, b, r api.Route) bool {
	if b.Key == r.Key || b.Key.P != r.Key.P || attr.Length(r.A) > attr.Length(b.A)+c.Longer {
		return false
	}
	for _, n := range r.A.Comms {
		for _, m := range c.Deny {
			if n == m {
				return false
			}
		}
	}
	from, had := h.Find(b.Key.Router, b.A.Next)
	to, has := h.Find(r.Key.Router, r.A.Next)
	if !has || had && from == to {
		return false
	}
	said, _ := x.Get(to.ID)
	return !said.Drain
}

// check holds all that is answered of l against the model.
func check(t *testing.T, c api.Conf, h *hop.Hops, x *capa.Capa, l []api.Route) []api.Option {
	t.Helper()
	for _, b := range l {
		for _, r := range l {
			if policy.Allowed(c, h, x, b, r) != allowed(c, h, x, b, r) {
				t.Fatal(c, b, r)
			}
		}
	}
	first, is := policy.First(h, l)
	at, has := best.Best(l)
	if is != has || is && !reflect.DeepEqual(first, policy.Option(h, l[at])) {
		t.Fatal(l, first)
	}
	d := policy.Detours(c, h, x, l)
	var left []api.Route
	for _, r := range l {
		if allowed(c, h, x, first.R, r) {
			left = append(left, r)
		}
	}
	if len(left) != len(d) {
		t.Fatal(l, d, left)
	}
	for i, r := range best.Rank(left) {
		if !reflect.DeepEqual(d[i], policy.Option(h, r)) {
			t.Fatal(l, d, i, r)
		}
		if d[i].R.Key == first.R.Key || d[i].Iface == first.Iface || d[i].Iface < 0 {
			t.Fatal(l, first, d[i])
		}
	}
	return d
}

// spoil changes all lists of a, and what lies behind their ends.
func spoil(a api.Attrs) {
	for i := range a.Path {
		_ = append(a.Path[i].AS, -1)
		clear(a.Path[i].AS)
		a.Path[i] = api.Segment{}
	}
	clear(a.Comms)
	_, _ = append(a.Path, api.Segment{}), append(a.Comms, -1)
}

// R3: what is handed in is not changed; no answer shares with it, and no two routes of one share.
func TestShares(t *testing.T) {
	h, x := tables(t)
	made := func() []api.Route {
		l := []api.Route{route(0, 1, by1, 7, 8), route(0, 2, by2, 7, 8), route(1, 3, by1, 7, 8), {}}[:3]
		same := []int{5, 6}
		for i := range l {
			l[i].A.Comms = same
		}
		return l
	}
	l, c := made(), settings(2, 66, 77)
	o, d := policy.Option(h, l[0]), policy.Detours(c, h, x, l)
	f, _ := policy.First(h, l)
	policy.Allowed(c, h, x, l[0], l[1])
	if len(d) != 2 {
		t.Fatal(d)
	}
	spoil(o.R.A)
	spoil(f.R.A)
	spoil(d[0].R.A)
	if !reflect.DeepEqual(d[1].R, made()[2]) {
		t.Error("two routes share", d)
	}
	spoil(d[1].R.A)
	clear(d)
	if !reflect.DeepEqual(l, made()) || !reflect.DeepEqual(l[:4][3], api.Route{}) || !slices.Equal(c.Deny, []int{66, 77}) {
		t.Error(l, c)
	}
}

// R1: of as many routes as there may be the detours are there soon.
func TestMany(t *testing.T) {
	h, x := tables(t)
	var l []api.Route
	for i := range api.MaxRoutes {
		l = append(l, with(route(i%2, i, by1+uint32(i%2<<16), 7, 8, i), comms(make([]int, api.MaxComms)...)))
	}
	begun := time.Now()
	d := policy.Detours(settings(2, 1, 2, 3, 4, 5, 6, 7, 8, 9, 10, 11, 12, 13, 14, 15, 16), h, x, l)
	if took := time.Since(begun); took > 20*time.Second || len(d) != len(l)/2 {
		t.Error(took, len(d))
	}
}

// P20.1, P20.2: routes by any bytes, against the model.
func FuzzDetours(f *testing.F) {
	f.Add([]byte("any bytes, one behind the other, as numbers"))
	f.Fuzz(func(t *testing.T, b []byte) {
		number := func(below int) int {
			if len(b) == 0 {
				return 0
			}
			n := int(b[0]) % below
			b = b[1:]
			return n
		}
		h, x := tables(t, drained(number)...)
		check(t, settings(number(6)-1, number(9), number(9)), h, x, some(number(12), number))
	})
}
