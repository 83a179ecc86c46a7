package update_test

import (
	"bytes"
	"math"
	"reflect"
	"slices"
	"testing"

	"bypath/addr"
	"bypath/api"
	"bypath/attr"
	"bypath/frame"
	"bypath/nlri"
	"bypath/update"
)

// mostBody is how many bytes a body has at most.
const mostBody = 4077

// at is a prefix of an ID.
func at(id int, of uint32, n int) api.Nlri { return api.Nlri{ID: id, P: addr.Make(of, n)} }

// list is prefixes, one behind the other.
func list(l ...api.Nlri) []api.Nlri { return l }

// many is n prefixes of so many bits (and the ID 0), unlike where that can be.
func many(n, bits int) []api.Nlri {
	l := make([]api.Nlri, n)
	for i := range l {
		l[i] = at(0, uint32(i)<<(32-bits), bits)
	}
	return l
}

// plain is the least that may be said of a route; its bytes are these.
func plain() api.Attrs { return api.Attrs{Next: 0x0a000001, Med: -1, Pref: -1} }

var plainBytes = []byte{64, 1, 1, 0, 64, 2, 0, 64, 3, 4, 10, 0, 0, 1}

// full is attributes of all parts.
func full(as int) api.Attrs {
	return api.Attrs{Origin: 2, Path: []api.Segment{{AS: []int{as, 5}}, {Set: true, AS: []int{6, 7}}}, Next: 0x0a000002, Med: 50, Pref: 200, Comms: []int{7, api.Max32}}
}

// may are updates that may be put, whatever four and paths are.
func may() []api.Update {
	return []api.Update{
		{},
		{Gone: []api.Nlri{}, Routes: []api.Nlri{}, A: api.Attrs{Path: []api.Segment{}, Comms: []int{}}},
		{Gone: list(at(0, 10<<24, 8))},
		{Routes: list(at(0, 10<<24, 8)), A: plain()},
		{Gone: list(at(0, 0, 0), at(0, 0x0a010203, 32)), Routes: list(at(0, 0x0a010000, 16), at(0, 0, 0)), A: full(65535)},
		{Gone: list(at(0, 10<<24, 8), at(0, 10<<24, 8)), Routes: list(at(0, 10<<24, 8), at(0, 10<<24, 8)), A: plain()}, // the same one again
	}
}

// mayPaths are those that may be put where several paths are told alone, mayFour where AS numbers have 4 bytes.
func mayPaths() []api.Update {
	return []api.Update{
		{Gone: list(at(1, 10<<24, 8))},
		{Routes: list(at(0, 0, 0), at(api.Max32, 0, 0)), A: plain()},
		{Gone: list(at(9, 0x0a010203, 32)), Routes: list(at(9, 0x0a010203, 32)), A: full(1)},
	}
}

func mayFour() []api.Update {
	return []api.Update{
		{Routes: list(at(0, 10<<24, 8)), A: full(65536)},
		{Gone: list(at(0, 0, 0)), Routes: list(at(0, 10<<24, 8)), A: full(api.MaxAS)},
	}
}

// mayNot are those that may not be put, each by one part.
func mayNot() []api.Update {
	odd := []api.Nlri{{ID: -1}, {ID: api.Max32 + 1}, {P: api.Prefix{Addr: 1, Len: 8}}, {P: api.Prefix{Len: 33}}, {P: api.Prefix{Len: -1}}, {P: api.Prefix{Len: math.MaxInt}}}
	l := []api.Update{
		{Soft: true},
		{Gone: list(at(0, 10<<24, 8)), Soft: true},
		{Routes: list(at(0, 10<<24, 8)), A: plain(), Soft: true},
		{Gone: many(1025, 0)},
		{Routes: many(1025, 0), A: plain()},
		// Nothing comes, but something is said.
		{A: plain()},
		{Gone: list(at(0, 10<<24, 8)), A: plain()},
		{A: api.Attrs{Origin: 1}},
		{A: api.Attrs{Next: 1}},
		{A: api.Attrs{Med: -1}},
		{A: api.Attrs{Pref: -1}},
		{A: api.Attrs{Comms: []int{0}}},
		{A: api.Attrs{Path: []api.Segment{{}}}},
		// Something comes, of which that may not be said.
		{Routes: list(at(0, 10<<24, 8))},
		{Routes: list(at(0, 10<<24, 8)), A: api.Attrs{Med: -1, Pref: -1}},
		{Routes: list(at(0, 10<<24, 8)), A: api.Attrs{Origin: 3, Next: 1}},
		{Routes: list(at(0, 10<<24, 8)), A: full(-1)},
		{Routes: list(at(0, 10<<24, 8)), A: full(api.MaxAS + 1)},
	}
	for _, n := range odd {
		l = append(l,
			api.Update{Gone: list(n)},
			api.Update{Gone: list(at(0, 0, 0), n), Routes: list(at(0, 0, 0)), A: plain()},
			api.Update{Routes: list(at(0, 0, 0), n), A: plain()},
			api.Update{Gone: list(at(0, 0, 0)), Routes: list(n), A: plain()})
	}
	return l
}

func taken(t *testing.T, u api.Update, four, paths bool) []byte {
	t.Helper()
	m, e := update.Put(u, four, paths)
	if update.Check(u, four, paths) != api.OK || e != api.OK || m.Type != api.TypeUpdate || frame.Check(m) != api.OK {
		t.Error(len(u.Gone), len(u.Routes), u.A, four, paths, e, m.Type, len(m.Body))
	}
	return m.Body
}

func refused(t *testing.T, u api.Update, four, paths bool) {
	t.Helper()
	m, e := update.Put(u, four, paths)
	if update.Check(u, four, paths) != api.ErrUpdate || e != api.ErrUpdate || m.Type != 0 || len(m.Body) != 0 {
		t.Error(len(u.Gone), len(u.Routes), u.A, u.Soft, four, paths, e, m.Type, len(m.Body))
	}
}

// both calls f with all that four and paths can be.
func both(f func(four, paths bool)) {
	for i := range 4 {
		f(i&1 != 0, i&2 != 0)
	}
}

// P7.1: just what may be is put.
func TestCheck(t *testing.T) {
	both(func(four, paths bool) {
		for _, u := range may() {
			taken(t, u, four, paths)
		}
		for _, u := range mayNot() {
			refused(t, u, four, paths)
		}
		for _, u := range mayPaths() {
			if paths {
				taken(t, u, four, paths)
			} else {
				refused(t, u, four, paths)
			}
		}
		for _, u := range mayFour() {
			if four {
				taken(t, u, four, paths)
			} else {
				refused(t, u, four, paths)
			}
		}
	})
}

// P7.1: a body of 4077 bytes may be, one of 4078 not, whatever part it is that has them.
func TestCheckSize(t *testing.T) {
	one := list(at(0, 0, 0)) // a byte, or 5
	for i, u := range []api.Update{
		{Gone: append(many(1018, 24), one...)},
		{Routes: append(many(1014, 24), many(3, 0)...), A: plain()},
		{Gone: many(1014, 24), Routes: many(3, 0), A: plain()},
		{Gone: many(3, 0), Routes: many(1014, 24), A: plain()},
		{Gone: many(500, 24), Routes: append(many(514, 24), many(3, 0)...), A: plain()},
		{Gone: many(1024, 16), Routes: many(987, 0), A: plain()},
	} {
		if b := taken(t, u, true, false); len(b) != mostBody {
			t.Error(i, len(b))
		}
		more := u
		more.Gone = append(slices.Clip(one), u.Gone...)
		refused(t, more, true, false)
		if len(u.Routes) == 0 {
			continue
		}
		more = u
		more.Routes = append(slices.Clip(one), u.Routes...)
		refused(t, more, true, false)
		more = u
		more.A.Med = 0
		refused(t, more, true, false)
	}
	u := api.Update{Gone: append(many(452, 32), many(1, 0)...)} // 9 bytes each, and 5: with their IDs
	if b := taken(t, u, false, true); len(b) != mostBody {
		t.Error(len(b))
	}
	u.Gone[452] = at(0, 0, 1)
	refused(t, u, false, true)
}

// P7.1: 1024 prefixes may be there, on each side.
func TestCheckMany(t *testing.T) {
	taken(t, api.Update{Gone: many(1024, 0)}, true, false)
	taken(t, api.Update{Routes: many(1024, 0), A: plain()}, true, false)
	taken(t, api.Update{Gone: many(1024, 0), Routes: many(1024, 0), A: full(1)}, true, false)
	refused(t, api.Update{Gone: many(1024, 0), Routes: many(1025, 0), A: full(1)}, true, false)
	refused(t, api.Update{Gone: many(1025, 0), Routes: many(1024, 0), A: full(1)}, true, false)
}

// P7.1: the bytes, one by one.
func TestPut(t *testing.T) {
	for i, x := range []struct {
		u           api.Update
		four, paths bool
		b           []byte
	}{
		{api.Update{}, false, false, []byte{0, 0, 0, 0}},
		{api.Update{}, true, true, []byte{0, 0, 0, 0}},
		{api.Update{Gone: list(at(0, 10<<24, 8))}, false, false, []byte{0, 2, 8, 10, 0, 0}},
		{api.Update{Gone: list(at(5, 10<<24, 8), at(0, 0, 0))}, false, true, []byte{0, 11, 0, 0, 0, 5, 8, 10, 0, 0, 0, 0, 0, 0, 0}},
		{api.Update{Routes: list(at(0, 0x0a010000, 16)), A: plain()}, false, false, slices.Concat([]byte{0, 0, 0, 14}, plainBytes, []byte{16, 10, 1})},
		{api.Update{Gone: list(at(4, 10<<24, 8)), Routes: list(at(1, 0x0a010000, 16), at(2, 0x0a010000, 16)), A: plain()}, true, true,
			slices.Concat([]byte{0, 6, 0, 0, 0, 4, 8, 10, 0, 14}, plainBytes, []byte{0, 0, 0, 1, 16, 10, 1, 0, 0, 0, 2, 16, 10, 1})},
		{api.Update{Routes: list(at(0, 0, 0)), A: full(9)}, false, false, []byte{0, 0, 0, 51, 64, 1, 1, 2, 64, 2, 12, 2, 2, 0, 9, 0, 5, 1, 2, 0, 6, 0, 7,
			64, 3, 4, 10, 0, 0, 2, 128, 4, 4, 0, 0, 0, 50, 64, 5, 4, 0, 0, 0, 200, 192, 8, 8, 0, 0, 0, 7, 255, 255, 255, 255, 0}},
		{api.Update{Routes: list(at(0, 0, 0)), A: full(9)}, true, false, []byte{0, 0, 0, 59, 64, 1, 1, 2, 64, 2, 20, 2, 2, 0, 0, 0, 9, 0, 0, 0, 5, 1, 2, 0, 0, 0, 6, 0, 0, 0, 7,
			64, 3, 4, 10, 0, 0, 2, 128, 4, 4, 0, 0, 0, 50, 64, 5, 4, 0, 0, 0, 200, 192, 8, 8, 0, 0, 0, 7, 255, 255, 255, 255, 0}},
	} {
		if b := taken(t, x.u, x.four, x.paths); !bytes.Equal(b, x.b) {
			t.Error(i, b)
		}
	}
	b := taken(t, api.Update{Gone: many(300, 0)}, true, false)
	if !bytes.Equal(b, slices.Concat([]byte{1, 44}, make([]byte, 300), []byte{0, 0})) {
		t.Error(b) // the lengths have two bytes, the highest first
	}
}

// body is the bytes of three parts.
func body(gone, said, come []byte) []byte {
	return slices.Concat([]byte{byte(len(gone) >> 8), byte(len(gone))}, gone, []byte{byte(len(said) >> 8), byte(len(said))}, said, come)
}

// P7.1: what is read of bytes that are not wrong.
func TestGet(t *testing.T) {
	eight, some := []byte{8, 10}, []byte{16, 10, 1, 0}
	ten, two := at(0, 10<<24, 8), list(at(0, 0x0a010000, 16), at(0, 0, 0))
	soft := func(l ...api.Nlri) api.Update { return api.Update{Gone: l, Soft: true} }
	for i, x := range []struct {
		b    []byte
		want api.Update
	}{
		{[]byte{0, 0, 0, 0}, api.Update{}},
		{body(eight, nil, nil), api.Update{Gone: list(ten)}},
		{body(nil, plainBytes, eight), api.Update{Routes: list(ten), A: plain()}},
		{body(some, plainBytes, eight), api.Update{Gone: two, Routes: list(ten), A: plain()}},
		{body(eight, plainBytes, eight), api.Update{Gone: list(ten), Routes: list(ten), A: plain()}},
		{body([]byte{9, 10, 255}, plainBytes, []byte{1, 127}), api.Update{Gone: list(at(0, 0x0a800000, 9)), Routes: list(at(0, 0, 1)), A: plain()}},
		// Nothing comes: attributes count for nothing, whatever they are.
		{body(eight, plainBytes, nil), api.Update{Gone: list(ten)}},
		{body(nil, plainBytes, nil), api.Update{}},
		{body(eight, plainBytes[:5], nil), api.Update{Gone: list(ten)}},
		{body(nil, []byte{1, 2, 3}, nil), api.Update{}},
		// What is said is less than must be, or bad: what comes goes, behind what goes.
		{body(nil, nil, eight), soft(ten)},
		{body(eight, nil, some), soft(ten, two[0], two[1])},
		{body(some, plainBytes[:7], eight), soft(two[0], two[1], ten)},
		{body(eight, plainBytes[:13], eight), soft(ten, ten)},
		{body(eight, append([]byte{64, 1, 1, 3}, plainBytes[4:]...), some), soft(ten, two[0], two[1])},
		{body(eight, append(slices.Clip(plainBytes), 64, 99, 0), some), soft(ten, two[0], two[1])},
		{body(eight, append(slices.Clip(plainBytes), 128, 99, 0), some), api.Update{Gone: list(ten), Routes: two, A: plain()}},
	} {
		both(func(four, _ bool) {
			u, n := update.Get(x.b, four, false)
			if !fine(n) || !update.Same(u, x.want) {
				t.Error(i, four, u, n)
			}
		})
	}
	u, n := update.Get(body([]byte{0, 0, 0, 5, 8, 10}, plainBytes, []byte{0, 0, 0, 6, 8, 10, 255, 255, 255, 255, 0}), true, true)
	if !fine(n) || !update.Same(u, api.Update{Gone: list(at(5, 10<<24, 8)), Routes: list(at(6, 10<<24, 8), at(api.Max32, 0, 0)), A: plain()}) {
		t.Error(u, n)
	}
}

func fine(n api.Note) bool { return n.Code == 0 && n.Sub == 0 && len(n.Data) == 0 }

// P7.1: AS numbers are read as wide as they are told to be.
func TestGetFour(t *testing.T) {
	for _, four := range []bool{false, true} {
		want := api.Update{Gone: list(at(0, 0, 0)), Routes: list(at(0, 10<<24, 8)), A: full(9)}
		b := taken(t, want, four, false)
		if u, n := update.Get(b, four, false); !fine(n) || !update.Same(u, want) {
			t.Error(four, u, n)
		}
		if u, n := update.Get(b, !four, false); !fine(n) || !update.Same(u, api.Update{Gone: list(at(0, 0, 0), at(0, 10<<24, 8)), Soft: true}) {
			t.Error(four, u, n)
		}
	}
}

// isWrong reads b, which must be wrong in that way.
func isWrong(t *testing.T, b []byte, paths bool, sub int) {
	t.Helper()
	both(func(four, _ bool) {
		u, n := update.Get(b, four, paths)
		if n.Code != 3 || n.Sub != sub || len(n.Data) != 0 || !reflect.DeepEqual(u, api.Update{}) {
			t.Error(b[:min(len(b), 40)], four, paths, u, n)
		}
	})
}

// P7.1: lengths that are cut off, or more than what follows, even where prefixes are no such bytes.
func TestGetLengths(t *testing.T) {
	for _, b := range [][]byte{
		nil, {}, {0}, {0, 0}, {0, 0, 0},
		{0, 1}, {0, 1, 0}, {0, 1, 0, 0}, {255, 255, 0, 0}, {1, 0, 0, 0},
		{0, 2, 8, 10}, {0, 2, 8, 10, 0}, {0, 5, 8, 10, 0, 0}, {0, 4, 8, 10, 0, 0},
		{0, 0, 0, 1}, {0, 0, 255, 255}, {0, 0, 1, 0, 0}, {0, 2, 8, 10, 0, 3, 0, 0},
		{0, 2, 33, 0, 0}, {0, 2, 33, 0, 0, 1}, {0, 1, 8, 0, 9, 10},
	} {
		isWrong(t, b, false, 1)
		isWrong(t, b, true, 1)
	}
	whole := body([]byte{8, 10}, plainBytes, []byte{0})
	for i := range len(whole) - 1 {
		isWrong(t, whole[:i], false, 1)
	}
	if u, n := update.Get(whole[:len(whole)-1], true, false); !fine(n) || len(u.Routes) != 0 {
		t.Error(u, n)
	}
}

// P7.1: prefixes that are no such bytes, on either side, whatever attributes are.
func TestGetPrefixes(t *testing.T) {
	for _, odd := range [][]byte{{33, 1, 2, 3, 4, 5}, {8}, {8, 10, 9, 10}, {0, 255}, make([]byte, 1025)} {
		for _, said := range [][]byte{nil, plainBytes, {9}} {
			isWrong(t, body(odd, said, nil), false, 10)
			isWrong(t, body(nil, said, odd), false, 10)
			isWrong(t, body(odd, said, []byte{0}), false, 10)
			isWrong(t, body([]byte{0}, said, odd), false, 10)
		}
	}
	for _, odd := range [][]byte{{0}, {8, 10}, {0, 0, 0, 5}, {0, 0, 0, 5, 33}, make([]byte, 5*1025)} {
		isWrong(t, body(odd, nil, nil), true, 10)
		isWrong(t, body([]byte{0, 0, 0, 5, 8, 10}, plainBytes, odd), true, 10)
	}
}

// P7.1: as many as may be on each side, in a body longer than one that is put; what was let go so is all there.
func TestGetMany(t *testing.T) {
	raw, _ := nlri.Put(many(1024, 24), false)
	u, n := update.Get(body(raw, plainBytes, raw), true, false)
	if !fine(n) || !update.Same(u, api.Update{Gone: many(1024, 24), Routes: many(1024, 24), A: plain()}) {
		t.Error(len(u.Gone), len(u.Routes), u.A, n)
	}
	u, n = update.Get(body(raw, nil, raw), true, false)
	if !fine(n) || !update.Same(u, api.Update{Gone: append(many(1024, 24), many(1024, 24)...), Soft: true}) {
		t.Error(len(u.Gone), len(u.Routes), u.Soft, n)
	}
}

// P7.2: each part counts, nil and empty lists are alike.
func TestSame(t *testing.T) {
	less := full(5)
	less.Path = less.Path[:1]
	l := slices.Concat(may()[:1], may()[2:], mayPaths(), mayFour(), []api.Update{
		{Soft: true},
		{A: plain()},
		{Gone: list(at(0, 10<<24, 8)), Soft: true},
		{Gone: list(at(0, 10<<24, 8), at(0, 0, 0))},
		{Gone: list(at(0, 0, 0), at(0, 10<<24, 8))},
		{Gone: list(at(0, 10<<24, 9))},
		{Routes: list(at(0, 10<<24, 8))},
		{Routes: list(at(1, 10<<24, 8))},
		{Routes: list(at(0, 10<<24, 8)), A: full(5)},
		{Routes: list(at(0, 10<<24, 8)), A: less},
		{Routes: list(at(0, 10<<24, 8), at(0, 10<<24, 8)), A: less},
	})
	for i, a := range l {
		for j, b := range l {
			b.Gone, b.Routes = slices.Clone(b.Gone), slices.Clone(b.Routes)
			if update.Same(a, b) != (i == j) {
				t.Error(i, j)
			}
		}
	}
	if !update.Same(may()[0], may()[1]) || !update.Same(may()[1], may()[0]) {
		t.Error("nil and empty")
	}
}

// fits is how many of l can come at once with a, as Check tells it.
func fits(l []api.Nlri, a api.Attrs, four, paths bool) int {
	n := 0
	for n < len(l) && update.Check(api.Update{Routes: l[:n+1], A: a}, four, paths) == api.OK {
		n++
	}
	return n
}

// P7.2: as many as can come at once, and no more.
func TestFit(t *testing.T) {
	big := full(1)
	big.Path = slices.Repeat([]api.Segment{{AS: slices.Repeat([]int{7}, 64)}}, 8)
	for _, x := range []struct {
		l           []api.Nlri
		a           api.Attrs
		four, paths bool
		n           int
	}{
		{nil, plain(), true, true, 0},
		{many(1, 0), plain(), true, true, 1},
		{many(1500, 0), plain(), true, false, 1024},
		{many(1024, 0), plain(), true, false, 1024},
		{many(1023, 0), plain(), true, false, 1023},
		{many(1500, 0), plain(), true, true, 811},
		{many(1500, 16), plain(), true, false, 1024},
		{many(1500, 24), plain(), true, false, 1014},
		{append(many(1014, 24), many(5, 0)...), plain(), true, false, 1017}, // 3 bytes are left then
		{append(many(1014, 24), many(1, 24)...), plain(), true, false, 1014},
		{slices.Concat(many(1014, 24), many(1, 24), many(5, 0)), plain(), true, false, 1014}, // what is behind one that does not fit does not count
		{many(1500, 32), plain(), true, true, 451},
		{many(1500, 32), big, true, true, (mostBody - 4 - 4 - 2068 - 7 - 7 - 7 - 11) / 9},
		{many(1500, 32), big, false, true, (mostBody - 4 - 4 - 1044 - 7 - 7 - 7 - 11) / 9},
	} {
		if n := update.Fit(x.l, x.a, x.four, x.paths); n != x.n || n != fits(x.l, x.a, x.four, x.paths) {
			t.Error(len(x.l), x.four, x.paths, n, x.n)
		}
	}
}

// P7.2: none fit, if the attributes, or one of the prefixes, may not be, wherever it stands.
func TestFitNone(t *testing.T) {
	for _, a := range []api.Attrs{{}, {Next: 1, Med: -2}, {Next: 1, Origin: 3}, full(-1), full(api.MaxAS + 1)} {
		both(func(four, paths bool) {
			if n := update.Fit(many(3, 0), a, four, paths); n != 0 {
				t.Error(a, four, paths, n)
			}
		})
	}
	if n := update.Fit(many(3, 0), full(65536), false, false); n != 0 {
		t.Error(n)
	}
	if n := update.Fit(many(3, 0), full(65536), true, false); n != 3 {
		t.Error(n)
	}
	odd := []api.Nlri{{ID: -1}, {ID: api.Max32 + 1}, {P: api.Prefix{Addr: 1, Len: 8}}, {P: api.Prefix{Len: 33}}, {P: api.Prefix{Len: math.MinInt}}}
	for _, x := range odd {
		for _, place := range []int{0, 1, 3, 1100} {
			l := slices.Insert(many(max(place, 3), 24), place, x)
			both(func(four, paths bool) {
				if n := update.Fit(l, plain(), four, paths); n != 0 {
					t.Error(x, place, four, paths, n)
				}
			})
		}
	}
	told := list(at(0, 0, 0), at(5, 0, 0))
	if n := update.Fit(told, plain(), true, false); n != 0 {
		t.Error(n) // several paths are not told
	}
	if n := update.Fit(told, plain(), true, true); n != 2 {
		t.Error(n)
	}
}

// P7.2: lists of all lengths mixed.
func TestFitMixed(t *testing.T) {
	seed := uint64(1)
	next := func(n int) int {
		seed = seed*6364136223846793005 + 1442695040888963407
		return int(seed>>33) % n
	}
	for range 12 {
		l := make([]api.Nlri, 200+next(1200))
		for i := range l {
			l[i] = at(0, uint32(next(1<<31))<<1, next(33))
		}
		a := full(1 + next(1000))
		a.Comms = slices.Repeat([]int{1}, next(33))
		both(func(four, paths bool) {
			if n, want := update.Fit(l, a, four, paths), fits(l, a, four, paths); n != want {
				t.Error(len(l), four, paths, n, want)
			}
		})
	}
}

// P7.3: what is put is got.
func TestPutIsGot(t *testing.T) {
	got := func(u api.Update, four, paths bool) {
		b := taken(t, u, four, paths)
		if g, n := update.Get(b, four, paths); !fine(n) || !update.Same(u, g) {
			t.Error(u, four, paths, g, n)
		}
	}
	both(func(four, paths bool) {
		for _, u := range may() {
			got(u, four, paths)
		}
	})
	for _, four := range []bool{false, true} {
		for _, u := range mayPaths() {
			got(u, four, true)
		}
		for _, u := range mayFour() {
			got(u, true, four)
		}
	}
	got(api.Update{Gone: append(many(1018, 24), at(0, 0, 0))}, true, false)
	got(api.Update{Gone: many(1024, 0), Routes: many(1024, 0), A: full(1)}, true, false)
}

// P7.1, P7.2 with R3: nothing that is handed in is changed or kept, nor is what lies behind its end.
func TestShares(t *testing.T) {
	gone, come := many(5, 24), many(6, 16)
	u := api.Update{Gone: gone[:2], Routes: come[:3], A: full(9)}
	m, _ := update.Put(u, true, false)
	update.Fit(gone[:2], u.A, true, false)
	raw := slices.Clone(m.Body)
	read := append(slices.Clip(raw), 1, 2, 3)[:len(raw)]
	first, _ := update.Get(read, true, false)
	soft, _ := update.Get(read, false, false)
	if !slices.Equal(gone, many(5, 24)) || !slices.Equal(come, many(6, 16)) || !attr.Same(u.A, full(9)) || !bytes.Equal(read[:len(raw)+3], append(raw, 1, 2, 3)) {
		t.Error(gone, come, u.A, read)
	}
	_ = append(first.Gone, at(9, 0, 0))
	_ = append(soft.Gone, at(9, 0, 0))
	clear(read)
	clear(gone)
	clear(come)
	if !update.Same(first, api.Update{Gone: many(5, 24)[:2], Routes: many(6, 16)[:3], A: full(9)}) || !bytes.Equal(m.Body, raw) {
		t.Error(first, m)
	}
	if !update.Same(soft, api.Update{Gone: slices.Concat(many(5, 24)[:2], many(6, 16)[:3]), Soft: true}) {
		t.Error(soft)
	}
}

// second reads a body in another way than Get does.
func second(b []byte, four, paths bool) (api.Update, int) {
	cut := func() []byte {
		if b == nil || len(b) < 2 || len(b)-2 < int(b[0])<<8+int(b[1]) {
			b = nil
			return nil
		}
		n := 2 + int(b[0])<<8 + int(b[1])
		part := b[2:n]
		b = b[n:]
		return part
	}
	first, said := cut(), cut()
	if b == nil {
		return api.Update{}, 1
	}
	gone, e := nlri.Get(first, paths)
	come, f := nlri.Get(b, paths)
	if e != api.OK || f != api.OK {
		return api.Update{}, 10
	}
	u := api.Update{Gone: gone, Routes: come}
	a, v := attr.Get(said, four)
	switch {
	case len(come) > 0 && v == api.VerdictFine:
		u.A = a
	case len(come) > 0:
		u = api.Update{Gone: slices.Concat(gone, come), Soft: true}
	}
	return u, 0
}

// R1, P7.1, P7.3: any bytes at all; what is got, and is not soft, is put where it is not too long, and got again.
func FuzzGet(f *testing.F) {
	for _, u := range slices.Concat(may(), mayPaths(), mayFour()) {
		both(func(four, paths bool) {
			if m, e := update.Put(u, four, paths); e == api.OK {
				f.Add(m.Body, four, paths)
				f.Add(m.Body, !four, paths)
			}
		})
	}
	f.Add([]byte{0, 2, 33, 0, 0, 0}, true, false)
	f.Fuzz(func(t *testing.T, b []byte, four, paths bool) {
		u, n := update.Get(b, four, paths)
		want, sub := second(slices.Clip(b), four, paths)
		if n.Sub != sub || (n.Code == 3) != (sub != 0) || len(n.Data) != 0 || !update.Same(u, want) {
			t.Fatal(u, n, want, sub)
		}
		if u.Soft {
			if update.Check(u, four, paths) != api.ErrUpdate {
				t.Error(u)
			}
			return
		}
		m, e := update.Put(u, four, paths)
		if e != api.OK {
			if len(b) <= mostBody {
				t.Error(u, e)
			}
			return
		}
		if again, n := update.Get(m.Body, four, paths); !fine(n) || !update.Same(u, again) {
			t.Error(u, again, n)
		}
	})
}
