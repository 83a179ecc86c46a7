package rib_test

import (
	"cmp"
	"maps"
	"math"
	"reflect"
	"slices"
	"testing"

	"bypath/addr"
	"bypath/api"
	"bypath/attr"
	"bypath/rib"
	"bypath/update"
)

// own is our AS, in most tests; most is how many routes there may be.
const (
	own  = 65000
	most = 1 << 16
)

// prefix is the prefix of a text.
func prefix(s string) api.Prefix {
	p, e := addr.Parse(s)
	if e != api.OK {
		panic(s)
	}
	return p
}

// told are prefixes of texts, each as the path of an ID.
func told(id int, texts ...string) []api.Nlri {
	var l []api.Nlri
	for _, s := range texts {
		l = append(l, api.Nlri{ID: id, P: prefix(s)})
	}
	return l
}

// said is attributes with a next hop and a path.
func said(next uint32, path ...int) api.Attrs {
	a := api.Attrs{Next: next, Med: -1, Pref: -1}
	if len(path) > 0 {
		a.Path = []api.Segment{{AS: path}}
	}
	return a
}

func table(t *testing.T, as, room int) *rib.Rib {
	t.Helper()
	r, e := rib.New(as, room)
	if e != api.OK || r == nil {
		t.Fatal(as, room, e)
	}
	return r
}

// apply does u, which must change the routes of just the prefixes of texts.
func apply(t *testing.T, r *rib.Rib, router int, u api.Update, texts ...string) {
	t.Helper()
	l, e := r.Apply(router, u)
	if e != api.OK {
		t.Fatal(router, u, e)
	}
	are(t, l, texts...)
}

func are(t *testing.T, l []api.Prefix, texts ...string) {
	t.Helper()
	var got []string
	for _, p := range l {
		got = append(got, addr.Show(p))
	}
	if !slices.Equal(got, texts) {
		t.Fatal(got, texts)
	}
}

// counts asks how many routes there are, and were refused.
func counts(t *testing.T, r *rib.Rib, n, refused int) {
	t.Helper()
	if r.Len() != n || r.Refused() != refused {
		t.Fatal(r.Len(), r.Refused(), n, refused)
	}
}

// has asks for a route that must be there.
func has(t *testing.T, r *rib.Rib, k api.Key, a api.Attrs) {
	t.Helper()
	if got, is := r.Get(k); !is || !attr.Same(got, a) {
		t.Fatal(k, got, is, a)
	}
}

// hasNone asks for a route that must not be there.
func hasNone(t *testing.T, r *rib.Rib, k api.Key) {
	t.Helper()
	if got, is := r.Get(k); is || !reflect.DeepEqual(got, api.Attrs{}) {
		t.Fatal(k, got, is)
	}
}

// empty asks for all that a table without routes answers.
func empty(t *testing.T, r *rib.Rib) {
	t.Helper()
	for _, router := range []int{-1, 0, 1, 15, 16, math.MinInt, math.MaxInt} {
		if r.Of(router) != 0 || len(r.Flush(router)) != 0 {
			t.Fatal(router)
		}
		for _, p := range []api.Prefix{{}, prefix("10.0.0.0/8"), {Addr: 1}, {Len: -1}, {Len: 33}} {
			hasNone(t, r, api.Key{Router: router, P: p})
			if len(r.Routes(p)) != 0 {
				t.Fatal(p)
			}
		}
	}
	if len(r.Prefixes()) != 0 || r.Len() != 0 {
		t.Fatal(r.Prefixes(), r.Len())
	}
}

// P14.1: how much room there may be, and which AS.
func TestNew(t *testing.T) {
	for _, as := range []int{0, 1, own, 1 << 31, 1<<32 - 1} {
		for _, room := range []int{0, 1, 5, most} {
			r := table(t, as, room)
			empty(t, r)
			counts(t, r, 0, 0)
		}
	}
	for _, wrong := range [][2]int{{-1, 5}, {1 << 32, 5}, {math.MinInt, 5}, {math.MaxInt, 5}, {own, -1}, {own, most + 1}, {own, math.MinInt}, {own, math.MaxInt}, {-1, -1}} {
		if r, e := rib.New(wrong[0], wrong[1]); e != api.ErrArg || r != nil {
			t.Error(wrong, e)
		}
	}
}

// P14.1: the document's example, and which prefixes are told.
func TestTold(t *testing.T) {
	r := table(t, own, 10)
	u := api.Update{Routes: told(1, "10.0.0.0/8"), A: said(1, 7)}
	apply(t, r, 0, u, "10.0.0.0/8")
	apply(t, r, 0, u)
	u.A = said(2, 7)
	apply(t, r, 0, u, "10.0.0.0/8")
	has(t, r, api.Key{P: prefix("10.0.0.0/8"), ID: 1}, said(2, 7))
	counts(t, r, 1, 0)
	u.Routes = told(1, "192.0.2.0/24", "10.0.0.0/9", "10.0.0.0/8", "0.0.0.0/0", "192.0.2.0/24", "10.0.0.0/8")
	apply(t, r, 0, u, "0.0.0.0/0", "10.0.0.0/9", "192.0.2.0/24")
	u.Routes = append(told(2, "192.0.2.0/24", "10.0.0.0/8"), told(3, "192.0.2.0/24")...)
	apply(t, r, 0, u, "10.0.0.0/8", "192.0.2.0/24")
	apply(t, r, 1, u, "10.0.0.0/8", "192.0.2.0/24")
	counts(t, r, 10, 0)
	apply(t, r, 0, api.Update{})
	apply(t, r, 0, api.Update{Gone: told(9, "10.0.0.0/8", "10.0.0.0/7")})
	apply(t, r, 2, api.Update{Gone: told(1, "10.0.0.0/8")})
	counts(t, r, 10, 0)
	apply(t, r, 0, api.Update{Gone: append(told(3, "192.0.2.0/24"), told(1, "192.0.2.0/24", "0.0.0.0/0", "0.0.0.0/0")...)}, "0.0.0.0/0", "192.0.2.0/24")
	are(t, r.Prefixes(), "10.0.0.0/8", "10.0.0.0/9", "192.0.2.0/24")
	counts(t, r, 7, 0)
}

// P14.1: each part of what is said makes a route another one; lists that are nil or empty do not.
func TestSaid(t *testing.T) {
	r := table(t, own, 1)
	l := told(0, "10.0.0.0/8")
	a := api.Attrs{Next: 1, Med: -1, Pref: -1}
	apply(t, r, 0, api.Update{Routes: l, A: a}, "10.0.0.0/8")
	a.Path, a.Comms = []api.Segment{}, []int{}
	apply(t, r, 0, api.Update{Routes: l, A: a})
	for _, change := range []func(){
		func() { a.Origin = 2 },
		func() { a.Path = []api.Segment{{AS: []int{1, 2}}} },
		func() { a.Path = []api.Segment{{AS: []int{1, 3}}} },
		func() { a.Path = []api.Segment{{AS: []int{1, 3}, Set: true}} },
		func() { a.Path = []api.Segment{{AS: []int{1}, Set: true}, {AS: []int{3}, Set: true}} },
		func() { a.Next = math.MaxUint32 },
		func() { a.Med = 0 },
		func() { a.Pref = 0 },
		func() { a.Pref = 1<<32 - 1 },
		func() { a.Comms = []int{1} },
		func() { a.Comms = []int{1, 1} },
		func() { a.Path = nil },
	} {
		change()
		apply(t, r, 0, api.Update{Routes: l, A: a}, "10.0.0.0/8")
		apply(t, r, 0, api.Update{Routes: l, A: a})
		has(t, r, api.Key{P: l[0].P}, a)
	}
	counts(t, r, 1, 0)
}

// P14.1: what goes, goes ahead of what comes; a route that is as it was is none that changed.
func TestGoneAhead(t *testing.T) {
	r := table(t, own, 3)
	a, b := told(1, "10.0.0.0/8"), told(1, "10.1.0.0/16")
	both := slices.Concat(a, b)
	apply(t, r, 0, api.Update{Routes: both, A: said(1, 7)}, "10.0.0.0/8", "10.1.0.0/16")
	apply(t, r, 0, api.Update{Gone: both, Routes: both, A: said(1, 7)})
	apply(t, r, 0, api.Update{Gone: both, Routes: b, A: said(1, 7)}, "10.0.0.0/8")
	apply(t, r, 0, api.Update{Gone: both, Routes: both, A: said(2, 7)}, "10.0.0.0/8", "10.1.0.0/16")
	apply(t, r, 0, api.Update{Gone: b, Routes: told(2, "10.1.0.0/16"), A: said(2, 7)}, "10.1.0.0/16")
	hasNone(t, r, api.Key{P: b[0].P, ID: 1})
	has(t, r, api.Key{P: b[0].P, ID: 2}, said(2, 7))
	counts(t, r, 2, 0)
}

// P14.1: a route that came by us is there no more; it needs no room. An AS counts in any segment, and so does 0.
func TestOwn(t *testing.T) {
	p, q := prefix("10.0.0.0/8"), prefix("10.1.0.0/16")
	for _, as := range []int{0, own, 1<<32 - 1} {
		r := table(t, as, 2)
		l := []api.Nlri{{P: p}, {P: q}, {ID: 5, P: q}}
		for _, path := range [][]api.Segment{
			{{AS: []int{as}}},
			{{AS: []int{7, as, 8}}},
			{{AS: []int{7}}, {Set: true, AS: []int{9, as}}},
		} {
			a := said(1)
			a.Path = path
			apply(t, r, 3, api.Update{Routes: l, A: a})
			counts(t, r, 0, 0)
			apply(t, r, 3, api.Update{Routes: l[:2], A: said(1, 7)}, "10.0.0.0/8", "10.1.0.0/16")
			apply(t, r, 4, api.Update{Routes: l, A: a})
			apply(t, r, 3, api.Update{Routes: l[2:], A: a})
			counts(t, r, 2, 0)
			apply(t, r, 3, api.Update{Routes: l[1:], A: a}, "10.1.0.0/16")
			hasNone(t, r, api.Key{Router: 3, P: q})
			has(t, r, api.Key{Router: 3, P: p}, said(1, 7))
			counts(t, r, 1, 0)
			apply(t, r, 3, api.Update{Routes: l, A: a}, "10.0.0.0/8")
			empty(t, r)
		}
		apply(t, r, 3, api.Update{Routes: l[:1], A: said(1, 7, as^1)}, "10.0.0.0/8")
	}
}

// P14.1, P14.2: where there is no room a route that is not there is counted, each time; one that is there is told anew.
func TestRoom(t *testing.T) {
	r := table(t, own, 2)
	a, b, c := told(1, "10.0.0.0/8"), told(1, "10.1.0.0/16"), told(1, "10.2.0.0/16")
	apply(t, r, 0, api.Update{Routes: slices.Concat(a, b, c, c), A: said(1, 7)}, "10.0.0.0/8", "10.1.0.0/16")
	counts(t, r, 2, 2)
	hasNone(t, r, api.Key{P: c[0].P, ID: 1})
	apply(t, r, 0, api.Update{Routes: slices.Concat(c, b), A: said(2, 7)}, "10.1.0.0/16")
	counts(t, r, 2, 3)
	apply(t, r, 1, api.Update{Routes: slices.Concat(a, b), A: said(3, 7)})
	counts(t, r, 2, 5)
	apply(t, r, 1, api.Update{Gone: a, Routes: a, A: said(3, 7)})
	counts(t, r, 2, 6)
	apply(t, r, 0, api.Update{Gone: a, Routes: slices.Concat(c, a), A: said(4, 7)}, "10.0.0.0/8", "10.2.0.0/16")
	counts(t, r, 2, 7)
	if r.Of(0) != 2 || r.Of(1) != 0 {
		t.Error(r.Of(0), r.Of(1))
	}
	are(t, r.Flush(0), "10.1.0.0/16", "10.2.0.0/16")
	counts(t, r, 0, 7)
	apply(t, r, 1, api.Update{Routes: slices.Concat(a, b), A: said(3, 7)}, "10.0.0.0/8", "10.1.0.0/16")
	counts(t, r, 2, 7)
	none := table(t, own, 0)
	apply(t, none, 0, api.Update{Gone: a, Routes: slices.Concat(a, b), A: said(1, 7)})
	empty(t, none)
	counts(t, none, 0, 2)
}

// P14.1: as many routes as there may be.
func TestFull(t *testing.T) {
	r := table(t, own, most)
	var l []api.Nlri
	for i := range most + 1 {
		l = append(l, api.Nlri{ID: i % 7, P: api.Prefix{Addr: uint32(i) * 2654435761, Len: 32}})
	}
	for i := 0; i < len(l); i += 1000 {
		if _, e := r.Apply(i%16, api.Update{Routes: l[i:min(i+1000, len(l))], A: said(1, 7)}); e != api.OK {
			t.Fatal(i, e)
		}
	}
	counts(t, r, most, 1)
	if got := r.Prefixes(); len(got) != most || !slices.IsSortedFunc(got, addr.Compare) {
		t.Error(len(got))
	}
	n := r.Of(8)
	if got := r.Flush(8); n < 4000 || len(got) != n || r.Len() != most-n || !slices.IsSortedFunc(got, addr.Compare) {
		t.Error(n, len(got), r.Len())
	}
}

// P14.1: what may not be told changes nothing.
func TestWrong(t *testing.T) {
	r := table(t, own, 5)
	good := told(1, "10.0.0.0/8")
	apply(t, r, 0, api.Update{Routes: good, A: said(1, 7)}, "10.0.0.0/8")
	var long []int
	for i := range 65 {
		long = append(long, i)
	}
	var updates []api.Update
	for _, n := range []api.Nlri{{ID: -1, P: good[0].P}, {ID: 1 << 32, P: good[0].P}, {ID: math.MinInt, P: good[0].P}, {P: api.Prefix{Addr: 0x0a000001, Len: 8}}, {P: api.Prefix{Len: 33}}, {P: api.Prefix{Len: -1}}} {
		wrong := append(told(1, "10.0.0.0/8", "10.1.0.0/16"), n)
		updates = append(updates,
			api.Update{Gone: wrong},
			api.Update{Gone: wrong, Soft: true},
			api.Update{Gone: wrong, Routes: good, A: said(2, 7)},
			api.Update{Routes: wrong, A: said(2, 7)},
			api.Update{Gone: good, Routes: wrong[2:], A: said(2, 7)})
	}
	for _, a := range []api.Attrs{{}, said(0, 7), said(2, -1), said(2, 1<<32), said(2, long...), {Next: 2, Med: -2, Pref: -1}, {Next: 2, Med: -1, Pref: 1 << 32}, {Origin: 3, Next: 2, Med: -1, Pref: -1}, {Next: 2, Comms: []int{-1}}, {Next: 2, Path: []api.Segment{{}}}} {
		updates = append(updates, api.Update{Gone: good, Routes: told(1, "10.1.0.0/16"), A: a})
	}
	updates = append(updates, api.Update{Gone: good, Routes: good, A: said(2, 7), Soft: true})
	refuse := func(router int, u api.Update) {
		t.Helper()
		if l, e := r.Apply(router, u); e != api.ErrArg || len(l) != 0 {
			t.Error(router, u, l, e)
		}
	}
	for _, u := range updates {
		refuse(0, u)
	}
	for _, router := range []int{-1, 16, math.MinInt, math.MaxInt} {
		refuse(router, api.Update{})
		refuse(router, api.Update{Gone: good})
		refuse(router, api.Update{Routes: good, A: said(2, 7)})
		if r.Of(router) != 0 || len(r.Flush(router)) != 0 {
			t.Error(router)
		}
		hasNone(t, r, api.Key{Router: router, P: good[0].P, ID: 1})
	}
	has(t, r, api.Key{P: good[0].P, ID: 1}, said(1, 7))
	are(t, r.Prefixes(), "10.0.0.0/8")
	counts(t, r, 1, 0)
}

// P14.1: what may be told at its ends; what is said counts for nothing where nothing comes; nothing is said of how many there may be at once.
func TestEnds(t *testing.T) {
	r := table(t, own, most)
	p := prefix("255.255.255.255/32")
	l := []api.Nlri{{ID: 0, P: p}, {ID: 1<<32 - 1, P: p}, {ID: 1<<32 - 1}}
	apply(t, r, 15, api.Update{Routes: l, A: said(1, 1<<32-1)}, "0.0.0.0/0", "255.255.255.255/32")
	has(t, r, api.Key{Router: 15, P: p, ID: 1<<32 - 1}, said(1, 1<<32-1))
	apply(t, r, 15, api.Update{Gone: l, A: api.Attrs{Origin: 9, Path: []api.Segment{{}}}}, "0.0.0.0/0", "255.255.255.255/32")
	var many []api.Nlri
	for i := range 3000 {
		many = append(many, api.Nlri{ID: i, P: p})
	}
	apply(t, r, 15, api.Update{Routes: many, A: said(1, 7)}, "255.255.255.255/32")
	counts(t, r, 3000, 0)
	wrong := append(slices.Clone(many), api.Nlri{ID: -1, P: p})
	if l, e := r.Apply(15, api.Update{Gone: wrong}); e != api.ErrArg || len(l) != 0 {
		t.Error(l, e)
	}
	counts(t, r, 3000, 0)
	apply(t, r, 15, api.Update{Gone: many, Soft: true}, "255.255.255.255/32")
	empty(t, r)
}

// P14.1 with 7: a body whose attributes may not be lets more than 1024 go at once.
func TestSoft(t *testing.T) {
	r := table(t, own, most)
	apply(t, r, 0, api.Update{Routes: told(0, "0.0.0.0/0", "0.0.0.0/1", "128.0.0.0/1"), A: said(1, 7)}, "0.0.0.0/0", "0.0.0.0/1", "128.0.0.0/1")
	body := slices.Concat([]byte{4, 0}, make([]byte, 1024), []byte{0, 0}, make([]byte, 1022), []byte{1, 128})
	u, bad := update.Get(body, true, false)
	if bad.Code != 0 || !u.Soft || len(u.Gone) != 2047 {
		t.Fatal(bad, len(u.Gone))
	}
	apply(t, r, 0, u, "0.0.0.0/0", "128.0.0.0/1")
	are(t, r.Prefixes(), "0.0.0.0/1")
}

// P14.2: routes of a prefix are told by routers, then by IDs; those of others are not.
func TestOrder(t *testing.T) {
	p, q := prefix("10.0.0.0/8"), prefix("10.0.0.0/9")
	seed := uint64(5)
	var keys []api.Key
	for _, router := range []int{0, 1, 2, 10, 15} {
		for _, id := range []int{0, 1, 2, 10, 1<<32 - 1} {
			keys = append(keys, api.Key{Router: router, P: p, ID: id})
		}
	}
	for range 20 {
		r := table(t, own, 100)
		for _, i := range shuffled(&seed, len(keys)) {
			k := keys[i]
			apply(t, r, k.Router, api.Update{Routes: []api.Nlri{{ID: k.ID, P: p}}, A: said(uint32(1+i), 7)}, "10.0.0.0/8")
			apply(t, r, k.Router, api.Update{Routes: []api.Nlri{{ID: k.ID, P: q}}, A: said(99, 7)}, "10.0.0.0/9")
		}
		l := r.Routes(p)
		if len(l) != len(keys) {
			t.Fatal(len(l))
		}
		for i, route := range l {
			if route.Key != keys[i] || !attr.Same(route.A, said(uint32(1+i), 7)) {
				t.Fatal(i, route)
			}
		}
		for _, none := range []api.Prefix{{}, prefix("10.0.0.0/7"), prefix("10.0.0.0/10"), {Addr: 0x0a000001, Len: 8}, {Addr: 0x0a000000, Len: -8}, {Addr: 0x0a000000, Len: 40}} {
			if l := r.Routes(none); len(l) != 0 {
				t.Fatal(none, l)
			}
			hasNone(t, r, api.Key{P: none})
		}
		counts(t, r, 50, 0)
	}
}

// P14.1, P14.3: behind a flush nothing of that router is there, and all of the others.
func TestFlush(t *testing.T) {
	r := table(t, own, 20)
	l := told(1, "10.0.0.0/8", "10.1.0.0/16", "192.0.2.0/24")
	apply(t, r, 0, api.Update{Routes: l, A: said(1, 7)}, "10.0.0.0/8", "10.1.0.0/16", "192.0.2.0/24")
	apply(t, r, 0, api.Update{Routes: told(2, "192.0.2.0/24"), A: said(1, 7)}, "192.0.2.0/24")
	apply(t, r, 1, api.Update{Routes: l[1:2], A: said(2, 7)}, "10.1.0.0/16")
	apply(t, r, 15, api.Update{Routes: told(1, "11.0.0.0/8"), A: said(3, 7)}, "11.0.0.0/8")
	for _, router := range []int{2, 14, -1, 16} {
		are(t, r.Flush(router))
	}
	counts(t, r, 6, 0)
	are(t, r.Flush(0), "10.0.0.0/8", "10.1.0.0/16", "192.0.2.0/24")
	are(t, r.Flush(0))
	are(t, r.Prefixes(), "10.1.0.0/16", "11.0.0.0/8")
	has(t, r, api.Key{Router: 1, P: l[1].P, ID: 1}, said(2, 7))
	if r.Of(0) != 0 || r.Of(1) != 1 || r.Of(15) != 1 {
		t.Error(r.Of(0), r.Of(1), r.Of(15))
	}
	are(t, r.Flush(15), "11.0.0.0/8")
	are(t, r.Flush(1), "10.1.0.0/16")
	empty(t, r)
	apply(t, r, 0, api.Update{Routes: l[:1], A: said(1, 7)}, "10.0.0.0/8")
	counts(t, r, 1, 0)
}

// P14.2: a nil one, and one that New did not make, has nothing, and takes nothing.
func TestNil(t *testing.T) {
	for _, r := range []*rib.Rib{nil, {}} {
		empty(t, r)
		counts(t, r, 0, 0)
		l := told(1, "10.0.0.0/8")
		for _, u := range []api.Update{{}, {Gone: l}, {Routes: l, A: said(1, 7)}, {Routes: l}} {
			for _, router := range []int{-1, 0, 16} {
				if l, e := r.Apply(router, u); e != api.ErrClosed || len(l) != 0 {
					t.Error(router, u, l, e)
				}
			}
		}
		empty(t, r)
		counts(t, r, 0, 0)
	}
}

// spoil changes all that the lists of a share with others.
func spoil(a api.Attrs) {
	for i := range a.Path {
		for k := range a.Path[i].AS {
			a.Path[i].AS[k] = 999
		}
		_ = append(a.Path[i].AS, 999)
		a.Path[i] = api.Segment{Set: true}
	}
	for i := range a.Comms {
		a.Comms[i] = 999
	}
	_, _ = append(a.Path, api.Segment{}), append(a.Comms, 999)
}

// rich is attributes with all kinds of lists, of which each has room behind its end.
func rich() api.Attrs {
	a := said(1)
	a.Path = append(make([]api.Segment, 0, 9), api.Segment{AS: append(make([]int, 0, 9), 7, 8)}, api.Segment{Set: true, AS: []int{9}})
	a.Comms = append(make([]int, 0, 9), 5, 6)
	return a
}

// R3: neither what was handed in nor what is told is shared with what is kept, nor one route told with another one.
func TestShared(t *testing.T) {
	r := table(t, own, 20)
	u := api.Update{Gone: told(7, "10.0.0.0/8"), Routes: append(told(1, "10.0.0.0/8", "10.1.0.0/16"), told(2, "10.0.0.0/8")...), A: rich()}
	before := api.Update{Gone: slices.Clone(u.Gone), Routes: slices.Clone(u.Routes), A: rich()}
	apply(t, r, 0, u, "10.0.0.0/8", "10.1.0.0/16")
	if !update.Same(u, before) || u.A.Path[:3][2].AS != nil || u.A.Comms[:3][2] != 0 {
		t.Error(u)
	}
	spoil(u.A)
	clear(u.Routes)
	all := func() {
		t.Helper()
		for _, n := range before.Routes {
			has(t, r, api.Key{P: n.P, ID: n.ID}, rich())
		}
		are(t, r.Prefixes(), "10.0.0.0/8", "10.1.0.0/16")
	}
	all()
	a, _ := r.Get(api.Key{P: before.Routes[0].P, ID: 1})
	spoil(a)
	all()
	l := r.Routes(before.Routes[0].P)
	spoil(l[0].A)
	if !attr.Same(l[1].A, rich()) {
		t.Error(l)
	}
	clear(l)
	all()
	clear(r.Prefixes())
	all()
	other := table(t, own, 20)
	empty(t, other)
}

// next is a number of a fixed sequence.
func next(seed *uint64) int {
	*seed = *seed*6364136223846793005 + 1442695040888963407
	return int(*seed >> 40)
}

// shuffled is the numbers below n, in some order.
func shuffled(seed *uint64, n int) []int {
	l := make([]int, n)
	for i := range l {
		k := next(seed) % (i + 1)
		l[i], l[k] = l[k], i
	}
	return l
}

// model is what a table is held against: routes by their whole keys.
type model struct {
	room    int
	routes  map[api.Key]api.Attrs
	refused int
}

func (m *model) apply(router int, u api.Update) []api.Prefix {
	ahead := maps.Clone(m.routes)
	for _, n := range u.Gone {
		delete(m.routes, api.Key{Router: router, P: n.P, ID: n.ID})
	}
	for _, n := range u.Routes {
		k := api.Key{Router: router, P: n.P, ID: n.ID}
		_, is := m.routes[k]
		if attr.Has(u.A, own) {
			delete(m.routes, k)
		} else if !is && len(m.routes) == m.room {
			m.refused++
		} else {
			m.routes[k] = u.A
		}
	}
	return m.changed(ahead)
}

func (m *model) flush(router int) []api.Prefix {
	ahead := maps.Clone(m.routes)
	maps.DeleteFunc(m.routes, func(k api.Key, _ api.Attrs) bool { return k.Router == router })
	return m.changed(ahead)
}

// changed are prefixes that have other routes than ahead.
func (m *model) changed(ahead map[api.Key]api.Attrs) []api.Prefix {
	l := map[api.Prefix]int{}
	for _, both := range [][2]map[api.Key]api.Attrs{{ahead, m.routes}, {m.routes, ahead}} {
		for k, a := range both[0] {
			if b, is := both[1][k]; !is || !attr.Same(a, b) {
				l[k.P]++
			}
		}
	}
	return slices.SortedFunc(maps.Keys(l), addr.Compare)
}

// check asks all that there is to ask, of prefixes.
func (m *model) check(t *testing.T, r *rib.Rib, l []api.Prefix) {
	t.Helper()
	counts(t, r, len(m.routes), m.refused)
	if got, want := r.Prefixes(), m.changed(nil); !slices.Equal(got, want) {
		t.Fatal(got, want)
	}
	of := map[int]int{}
	for k := range m.routes {
		of[k.Router]++
	}
	for router := -1; router <= 16; router++ {
		if r.Of(router) != of[router] {
			t.Fatal(router, r.Of(router), of[router])
		}
	}
	for _, p := range l {
		m.checkRoutes(t, r, p)
	}
}

func (m *model) checkRoutes(t *testing.T, r *rib.Rib, p api.Prefix) {
	t.Helper()
	var want []api.Key
	for k, a := range m.routes {
		if k.P == p {
			want = append(want, k)
			has(t, r, k, a)
		}
	}
	slices.SortFunc(want, func(a, b api.Key) int {
		return cmp.Or(cmp.Compare(a.Router, b.Router), cmp.Compare(a.ID, b.ID))
	})
	got := r.Routes(p)
	if len(got) != len(want) {
		t.Fatal(got, want)
	}
	for i, k := range want {
		if got[i].Key != k || !attr.Same(got[i].A, m.routes[k]) {
			t.Fatal(i, got[i], k)
		}
	}
}

// mine is all that is told of a router's routes.
func mine(r *rib.Rib, router int, l []api.Prefix) []api.Route {
	var out []api.Route
	for _, p := range l {
		for _, route := range r.Routes(p) {
			if route.Key.Router == router {
				out = append(out, route)
			}
		}
	}
	return out
}

// run holds a table against the model. number is the next number, below the one that it is handed.
func run(t *testing.T, steps, room int, number func(below int) int) {
	t.Helper()
	l := []api.Prefix{prefix("0.0.0.0/0"), prefix("10.0.0.0/8"), prefix("10.0.0.0/9"), prefix("10.1.0.0/16"), prefix("192.0.2.0/24")}
	paths := [][]int{nil, {7}, {7, 8}, {7, own}}
	some := func() []api.Nlri {
		var out []api.Nlri
		for range number(5) {
			out = append(out, api.Nlri{ID: number(3), P: l[number(len(l))]})
		}
		return out
	}
	r, m := table(t, own, room), model{room: room, routes: map[api.Key]api.Attrs{}}
	for range steps {
		router, do := number(3), number(10)
		others := [][]api.Route{mine(r, (router+1)%3, l), mine(r, (router+2)%3, l)}
		var got, want []api.Prefix
		if do == 0 {
			got, want = r.Flush(router), m.flush(router)
		} else {
			u := api.Update{Gone: some(), Routes: some(), A: said(uint32(1+number(2)), paths[number(len(paths))]...)}
			if do < 4 {
				u = api.Update{Gone: u.Gone, Soft: do == 1}
			}
			var e api.Errno
			if got, e = r.Apply(router, u); e != api.OK {
				t.Fatal(u, e)
			}
			want = m.apply(router, u)
		}
		if !slices.Equal(got, want) {
			t.Fatal(got, want)
		}
		m.check(t, r, l)
		if now := [][]api.Route{mine(r, (router+1)%3, l), mine(r, (router+2)%3, l)}; !reflect.DeepEqual(now, others) {
			t.Fatal(now, others)
		}
	}
}

// P14.1 to P14.3: any updates and flushes, with any room.
func TestAny(t *testing.T) {
	seed := uint64(3)
	for _, room := range []int{0, 1, 2, 5, 12, 30, 45, most} {
		run(t, 500, room, func(below int) int { return next(&seed) % below })
	}
}

// R1, P14.1 to P14.3: any steps at all.
func FuzzRib(f *testing.F) {
	f.Add(5, []byte{0, 5, 2, 0, 1, 1, 1, 3, 0, 0, 1, 1, 2, 2, 0, 1})
	f.Add(1, []byte{1, 9, 0, 4, 1, 1, 1, 2, 2, 3, 0, 4, 0, 1, 1, 0})
	f.Fuzz(func(t *testing.T, room int, b []byte) {
		if room < 0 || room > most || len(b) > 400 {
			return
		}
		at := 0
		run(t, len(b)/8, room, func(below int) int {
			at++
			return int(b[at%len(b)]) % below
		})
	})
}

// R1: any router, prefix, ID and attributes.
func FuzzWrong(f *testing.F) {
	f.Add(0, 0, uint32(0x0a000000), 8, 0, uint32(1), -1, 7, true)
	f.Add(16, -1, uint32(1), 33, 3, uint32(0), -2, -1, false)
	f.Fuzz(func(t *testing.T, router, id int, a uint32, n, origin int, hop uint32, med, as int, come bool) {
		r := table(t, own, 5)
		l := []api.Nlri{{ID: id, P: api.Prefix{Addr: a, Len: n}}}
		u := api.Update{Gone: l}
		may := router >= 0 && router < 16 && id >= 0 && id <= 1<<32-1 && addr.Check(l[0].P) == api.OK
		if come {
			u = api.Update{Routes: l, A: api.Attrs{Origin: origin, Path: []api.Segment{{AS: []int{as}}}, Next: hop, Med: med, Pref: -1}}
			may = may && attr.Check(u.A, true) == api.OK
		}
		got, e := r.Apply(router, u)
		if !may {
			if e != api.ErrArg || len(got) != 0 {
				t.Fatal(got, e)
			}
			empty(t, r)
			return
		}
		k := api.Key{Router: router, P: l[0].P, ID: id}
		if e != api.OK || (len(got) == 1) != (come && as != own) {
			t.Fatal(got, e)
		}
		if len(got) == 1 {
			has(t, r, k, u.A)
		} else {
			hasNone(t, r, k)
		}
	})
}
