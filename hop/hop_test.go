package hop_test

import (
	"math"
	"slices"
	"testing"

	"bypath/addr"
	"bypath/api"
	"bypath/hop"
)

// prefix is the prefix of a text.
func prefix(s string) api.Prefix {
	p, e := addr.Parse(s)
	if e != api.OK {
		panic(s)
	}
	return p
}

// address is the address of a text.
func address(s string) uint32 {
	a, e := addr.Address(s)
	if e != api.OK {
		panic(s)
	}
	return a
}

// way is an interface of a router.
func way(id, router int, net string) api.Iface {
	return api.Iface{ID: id, Router: router, Net: prefix(net), Cap: 100 + id%1000}
}

func table(t *testing.T, l ...api.Iface) *hop.Hops {
	t.Helper()
	if e := hop.Check(l); e != api.OK {
		t.Fatal(l, e)
	}
	h, e := hop.New(l)
	if e != api.OK || h == nil {
		t.Fatal(l, e)
	}
	return h
}

// finds asks for the interface of a next hop: one of that number, or none (below 0).
func finds(t *testing.T, h *hop.Hops, router int, next string, id int) {
	t.Helper()
	x, is := h.Find(router, address(next))
	y, _ := h.Iface(id)
	if is != (id >= 0) || x != y {
		t.Error(router, next, x, is, id)
	}
}

// empty asks for all that a table without interfaces answers.
func empty(t *testing.T, h *hop.Hops) {
	t.Helper()
	for _, n := range []int{math.MinInt, -1, 0, 1, 15, 16, math.MaxInt} {
		if x, is := h.Iface(n); is || x != (api.Iface{}) {
			t.Error(n, x)
		}
		for _, next := range []uint32{0, 1, 0x0a000001, math.MaxUint32} {
			if x, is := h.Find(n, next); is || x != (api.Iface{}) {
				t.Error(n, next, x)
			}
		}
	}
	if len(h.All()) != 0 || h.Len() != 0 {
		t.Error(h.All(), h.Len())
	}
}

// P16.1: the document's example, on every router by itself; which one holds is by whole prefixes, which one is longest by length.
func TestFind(t *testing.T) {
	h := table(t,
		way(7, 0, "10.0.0.0/8"), way(3, 0, "10.1.0.0/16"), way(9, 0, "10.1.0.5/32"), way(0, 0, "192.0.2.128/25"),
		way(4, 1, "10.1.0.0/16"), way(5, 2, "0.0.0.0/0"), way(6, 15, "10.0.0.0/8"), way(8, 15, "10.128.0.0/9"),
	)
	for _, x := range []struct {
		router int
		next   string
		id     int
	}{
		{0, "10.1.0.4", 3}, {0, "10.1.0.5", 9}, {0, "10.1.0.6", 3}, {0, "10.1.255.255", 3}, {0, "10.2.0.0", 7}, {0, "10.0.255.255", 7},
		{0, "9.255.255.255", -1}, {0, "11.0.0.0", -1}, {0, "0.0.0.0", -1}, {0, "255.255.255.255", -1},
		{0, "192.0.2.127", -1}, {0, "192.0.2.128", 0}, {0, "192.0.2.255", 0}, {0, "192.0.3.0", -1},
		{1, "10.1.0.5", 4}, {1, "10.2.0.5", -1}, {1, "10.0.255.255", -1},
		{2, "0.0.0.0", 5}, {2, "10.1.0.5", 5}, {2, "255.255.255.255", 5},
		{15, "10.127.255.255", 6}, {15, "10.128.0.0", 8}, {15, "10.255.255.255", 8}, {15, "11.0.0.0", -1},
		{3, "10.1.0.5", -1}, {14, "10.1.0.5", -1}, {-1, "10.1.0.5", -1}, {16, "10.1.0.5", -1}, {math.MinInt, "10.1.0.5", -1}, {math.MaxInt, "10.1.0.5", -1},
	} {
		finds(t, h, x.router, x.next, x.id)
	}
}

// P16.1: interfaces by their numbers, with all that was said of them.
func TestIface(t *testing.T) {
	l := []api.Iface{
		{ID: 9, Router: 3, Net: prefix("10.0.0.0/8"), Cap: 0}, {ID: api.Max32, Router: 15, Net: prefix("10.0.0.0/8"), Cap: api.MaxSum},
		{ID: 0, Router: 0, Net: prefix("0.0.0.0/0"), Cap: 1}, {ID: 8, Router: 3, Net: prefix("255.255.255.255/32"), Cap: 7},
	}
	h := table(t, l...)
	for _, x := range l {
		if y, is := h.Iface(x.ID); !is || x != y {
			t.Error(x, y)
		}
	}
	for _, id := range []int{-1, 1, 7, 10, api.Max32 - 1, api.Max32 + 1, math.MinInt, math.MaxInt} {
		if y, is := h.Iface(id); is || y != (api.Iface{}) {
			t.Error(id, y)
		}
	}
	if a := h.All(); !slices.Equal(a, []api.Iface{l[2], l[3], l[0], l[1]}) || h.Len() != 4 {
		t.Error(a, h.Len())
	}
}

// P16.1: which interfaces may be: each change spoils them, wherever it stands.
func TestCheck(t *testing.T) {
	good := []api.Iface{way(5, 0, "10.0.0.0/8"), way(6, 0, "10.0.0.0/9"), way(7, 1, "10.0.0.0/8"), way(8, 1, "10.128.0.0/9")}
	table(t, good...)
	table(t)
	for i, change := range []func(l []api.Iface, x *api.Iface){
		func(l []api.Iface, x *api.Iface) { x.ID = -1 },
		func(l []api.Iface, x *api.Iface) { x.ID = api.Max32 + 1 },
		func(l []api.Iface, x *api.Iface) { x.ID = math.MinInt },
		func(l []api.Iface, x *api.Iface) { x.ID = math.MaxInt },
		func(l []api.Iface, x *api.Iface) { x.Router = -1 },
		func(l []api.Iface, x *api.Iface) { x.Router = api.MaxRouters },
		func(l []api.Iface, x *api.Iface) { x.Router = math.MinInt },
		func(l []api.Iface, x *api.Iface) { x.Router = math.MaxInt },
		func(l []api.Iface, x *api.Iface) { x.Cap = -1 },
		func(l []api.Iface, x *api.Iface) { x.Cap = api.MaxSum + 1 },
		func(l []api.Iface, x *api.Iface) { x.Cap = math.MinInt },
		func(l []api.Iface, x *api.Iface) { x.Cap = math.MaxInt },
		func(l []api.Iface, x *api.Iface) { x.Net.Addr++ },
		func(l []api.Iface, x *api.Iface) { x.Net.Len = -1 },
		func(l []api.Iface, x *api.Iface) { x.Net.Len = 33 },
		func(l []api.Iface, x *api.Iface) { x.Net.Len = math.MinInt },
		func(l []api.Iface, x *api.Iface) { x.Net.Len = math.MaxInt },
		func(l []api.Iface, x *api.Iface) { x.Net = api.Prefix{Addr: 1 << 31, Len: 0} },
		func(l []api.Iface, x *api.Iface) { x.ID = l[(slices.Index(l, *x)+1)%len(l)].ID },
		func(l []api.Iface, x *api.Iface) { x.ID = l[(slices.Index(l, *x)+2)%len(l)].ID },
		func(l []api.Iface, x *api.Iface) {
			y := l[(slices.Index(l, *x)+1)%len(l)]
			x.Router, x.Net = y.Router, y.Net
		},
		func(l []api.Iface, x *api.Iface) { *x = l[(slices.Index(l, *x)+3)%len(l)] },
	} {
		for at := range good {
			l := slices.Clone(good)
			change(l, &l[at])
			if e := hop.Check(l); e != api.ErrIface {
				t.Error(i, at, e)
			}
			if h, e := hop.New(l); e != api.ErrIface || h != nil {
				t.Error(i, at, e)
			}
		}
	}
}

// P16.1: as many as there may be, and one more.
func TestMost(t *testing.T) {
	var l []api.Iface
	for i := range api.MaxIfaces + 1 {
		l = append(l, api.Iface{ID: 1000 - i, Router: i % 3, Net: addr.Make(uint32(i)<<20, 12)})
	}
	h := table(t, l[:api.MaxIfaces]...)
	if h.Len() != 256 || len(h.All()) != 256 || h.All()[0].ID != 745 || h.All()[255].ID != 1000 {
		t.Error(h.Len(), h.All())
	}
	if x, is := h.Find(1, 100<<20|5); !is || x.ID != 900 {
		t.Error(x)
	}
	if _, e := hop.New(l); e != api.ErrIface || hop.Check(l) != api.ErrIface {
		t.Error(e)
	}
	if hop.Check(make([]api.Iface, 1<<20)) != api.ErrIface {
		t.Error("a million")
	}
}

// P16.1: of no interfaces, of a nil table, and of one that New did not make, there is nothing.
func TestNil(t *testing.T) {
	empty(t, nil)
	empty(t, &hop.Hops{})
	empty(t, table(t))
	h, e := hop.New([]api.Iface{})
	if e != api.OK {
		t.Error(e)
	}
	empty(t, h)
}

// R3: what is handed in is not kept, what is answered is not what is kept.
func TestShared(t *testing.T) {
	l := []api.Iface{way(5, 0, "10.0.0.0/8"), way(3, 1, "10.0.0.0/8"), way(4, 2, "10.0.0.0/8")}
	m := slices.Clone(l)
	h := table(t, l[:2]...)
	if !slices.Equal(l, m) {
		t.Fatal("changed", l)
	}
	clear(l)
	a := h.All()
	clear(a)
	_ = append(a, api.Iface{})
	if a := h.All(); !slices.Equal(a, []api.Iface{m[1], m[0]}) {
		t.Error(a)
	}
	if x, is := h.Find(1, 0x0a000001); !is || x != m[1] {
		t.Error(x)
	}
	if x, is := h.Iface(5); !is || x != m[0] {
		t.Error(x)
	}
}

// next is the next number of a sequence that begins with seed.
func next(seed *uint64) int {
	*seed = *seed*6364136223846793005 + 1442695040888963407
	return int(*seed >> 33)
}

// some are up to n interfaces that may be, of prefixes that often hold one another.
func some(n, least int, number func(below int) int) []api.Iface {
	var l []api.Iface
	for range n {
		x := api.Iface{ID: number(40), Router: number(3), Cap: number(1000), Net: addr.Make(uint32(number(16))<<28|uint32(number(4)), least+number(33-least))}
		if m := append(slices.Clone(l), x); unlike(m) {
			l = m
		}
	}
	return l
}

// unlike is the model of Check, of interfaces that may be but for what they have in common.
func unlike(l []api.Iface) bool {
	for i, x := range l {
		if slices.ContainsFunc(l[:i], func(y api.Iface) bool { return x.ID == y.ID || x.Router == y.Router && x.Net == y.Net }) {
			return false
		}
	}
	return true
}

// find is the model of Find.
func find(l []api.Iface, router int, next uint32) (best api.Iface, is bool) {
	for _, x := range l {
		if x.Router == router && addr.Holds(x.Net, next) && (!is || x.Net.Len > best.Net.Len) {
			best, is = x, true
		}
	}
	return best, is
}

// nexts are next hops in and around the prefixes of l.
func nexts(l []api.Iface) []uint32 {
	all := []uint32{0, 1, 0x0a000001, math.MaxUint32}
	for _, x := range l {
		end := x.Net.Addr | uint32(1<<(32-x.Net.Len)-1)
		all = append(all, x.Net.Addr, x.Net.Addr-1, end, end+1)
	}
	return all
}

// check holds all that h answers against the model.
func check(t *testing.T, h *hop.Hops, l []api.Iface) {
	t.Helper()
	for _, a := range nexts(l) {
		for router := -1; router < 5; router++ {
			x, is := h.Find(router, a)
			if y, has := find(l, router, a); x != y || is != has {
				t.Fatal(l, router, a, x, y)
			}
		}
	}
	sorted := slices.SortedFunc(slices.Values(l), func(x, y api.Iface) int { return x.ID - y.ID })
	if h.Len() != len(l) || !slices.Equal(h.All(), sorted) {
		t.Fatal(l, h.Len(), h.All())
	}
	for id := range 41 {
		x, is := h.Iface(id)
		if i := slices.IndexFunc(l, func(y api.Iface) bool { return y.ID == id }); is != (i >= 0) || is && x != l[i] {
			t.Fatal(l, id, x)
		}
	}
}

// P16.1, P16.2: any interfaces, in any order, against the model.
func TestAny(t *testing.T) {
	seed := uint64(1)
	number := func(below int) int { return next(&seed) % below }
	for i := range 300 {
		l := some(i%30, 0, number)
		for range 3 {
			check(t, table(t, l...), l)
			for j := range l {
				k := number(j + 1)
				l[j], l[k] = l[k], l[j]
			}
		}
	}
}

// P16.2: an interface more, of a shorter prefix than the others of its router, changes only next hops that had none; they have it, if it holds them.
func TestShorter(t *testing.T) {
	seed := uint64(2)
	number := func(below int) int { return next(&seed) % below }
	for i := range 300 {
		l := some(20, 5, number)
		more := api.Iface{ID: 100, Router: number(4), Net: addr.Make(uint32(number(16))<<28, number(5)), Cap: 1}
		if i%4 == 0 {
			more.Net = api.Prefix{}
		}
		h, m := table(t, l...), table(t, append(slices.Clone(l), more)...)
		for _, a := range nexts(append(l, more)) {
			for router := range 4 {
				x, had := h.Find(router, a)
				y, has := m.Find(router, a)
				now := router == more.Router && addr.Holds(more.Net, a)
				if had && (!has || x != y) || !had && (has != now || has && y != more) {
					t.Fatal(l, more, router, a, x, y)
				}
			}
		}
	}
}

// P16.1: interfaces by any bytes are refused just where the words say so, and found as the model does.
func FuzzHop(f *testing.F) {
	f.Add([]byte("any bytes, one behind the other, as numbers"))
	f.Fuzz(func(t *testing.T, b []byte) {
		if len(b) > 256 {
			b = b[:256]
		}
		var l []api.Iface
		may := true
		for ; len(b) >= 4; b = b[4:] {
			x := api.Iface{ID: int(b[0]) - 1, Router: int(b[1])%18 - 1, Cap: int(b[2]) - 1, Net: api.Prefix{Addr: uint32(b[2]) << 24, Len: int(b[3])%36 - 1}}
			may = may && x.ID >= 0 && x.Router >= 0 && x.Router < 16 && x.Cap >= 0 && addr.Check(x.Net) == api.OK
			l = append(l, x)
		}
		want := api.OK
		if !may || !unlike(l) {
			want = api.ErrIface
		}
		h, e := hop.New(l)
		if e != want || hop.Check(l) != want || (h != nil) != (e == api.OK) {
			t.Fatal(l, e, want)
		}
		for _, a := range nexts(h.All()) {
			x, is := h.Find(1, a)
			if y, has := find(h.All(), 1, a); x != y || is != has {
				t.Fatal(l, a, x, y)
			}
		}
	})
}
