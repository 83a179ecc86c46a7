package attr_test

import (
	"bytes"
	"math"
	"reflect"
	"slices"
	"testing"

	"bypath/api"
	"bypath/attr"
)

// row and set are segments.
func row(as ...int) api.Segment { return api.Segment{AS: as} }
func set(as ...int) api.Segment { return api.Segment{Set: true, AS: as} }

// path is segments, one behind the other.
func path(l ...api.Segment) []api.Segment { return l }

// times is n numbers, all the same.
func times(n, of int) []int { return slices.Repeat([]int{of}, n) }

// plain is the least that may be, with what change does to it.
func plain(change func(a *api.Attrs)) api.Attrs {
	a := api.Attrs{Next: 0x0a000001, Med: -1, Pref: -1}
	if change != nil {
		change(&a)
	}
	return a
}

// may are attributes that may be, at the edges of each part, with AS numbers of 2 bytes too.
func may() []api.Attrs {
	return []api.Attrs{
		plain(nil),
		plain(func(a *api.Attrs) { a.Origin = 1 }),
		plain(func(a *api.Attrs) { a.Origin = 2 }),
		plain(func(a *api.Attrs) { a.Next = 1 }),
		plain(func(a *api.Attrs) { a.Next = api.Max32 }),
		plain(func(a *api.Attrs) { a.Med = 0 }),
		plain(func(a *api.Attrs) { a.Med = api.Max32 }),
		plain(func(a *api.Attrs) { a.Pref = 0 }),
		plain(func(a *api.Attrs) { a.Pref = api.Max32 }),
		plain(func(a *api.Attrs) { a.Path, a.Comms = []api.Segment{}, []int{} }),
		plain(func(a *api.Attrs) { a.Path = path(row(0)) }),
		plain(func(a *api.Attrs) { a.Path = path(set(65535)) }),
		plain(func(a *api.Attrs) { a.Path = path(row(5, 5), set(5, 5), row(6)) }),
		plain(func(a *api.Attrs) { a.Path = path(row(times(64, 7)...)) }),
		plain(func(a *api.Attrs) { a.Path = path(set(times(64, 7)...), row(8)) }),
		plain(func(a *api.Attrs) { a.Path = slices.Repeat(path(row(1)), 8) }),
		plain(func(a *api.Attrs) { a.Path = slices.Repeat(path(set(times(64, 65535)...)), 8) }),
		plain(func(a *api.Attrs) { a.Comms = []int{0} }),
		plain(func(a *api.Attrs) { a.Comms = []int{api.Max32, 1, 0, 1} }),
		plain(func(a *api.Attrs) { a.Comms = times(32, api.Max32) }),
		{Origin: 2, Path: path(row(65001, 65002), set(5, 6, 7)), Next: 0x0a000002, Med: 50, Pref: 200, Comms: []int{65001<<16 | 77, 3}},
	}
}

// mayFour are those that may be with AS numbers of 4 bytes alone.
func mayFour() []api.Attrs {
	return []api.Attrs{
		plain(func(a *api.Attrs) { a.Path = path(row(65536)) }),
		plain(func(a *api.Attrs) { a.Path = path(row(1), set(1, api.MaxAS)) }),
		plain(func(a *api.Attrs) { a.Path = slices.Repeat(path(row(times(64, api.MaxAS)...)), 8) }),
	}
}

// mayNot are those that may not be, each by one part.
func mayNot() []api.Attrs {
	l := []api.Attrs{
		{},
		plain(func(a *api.Attrs) { a.Next = 0 }),
		plain(func(a *api.Attrs) { a.Origin = 3 }),
		plain(func(a *api.Attrs) { a.Path = path(row()) }),
		plain(func(a *api.Attrs) { a.Path = path(set()) }),
		plain(func(a *api.Attrs) { a.Path = path(row(1), row([]int{}...)) }),
		plain(func(a *api.Attrs) { a.Path = path(row(times(65, 7)...)) }),
		plain(func(a *api.Attrs) { a.Path = path(row(1), set(times(65, 7)...)) }),
		plain(func(a *api.Attrs) { a.Path = slices.Repeat(path(row(1)), 9) }),
		plain(func(a *api.Attrs) { a.Comms = times(33, 1) }),
	}
	for _, n := range []int{-1, math.MinInt, api.Max32 + 1, math.MaxInt} {
		l = append(l,
			plain(func(a *api.Attrs) { a.Origin = n }),
			plain(func(a *api.Attrs) { a.Path = path(row(n)) }),
			plain(func(a *api.Attrs) { a.Path = path(row(1), set(2, n)) }),
			plain(func(a *api.Attrs) { a.Comms = []int{n} }),
			plain(func(a *api.Attrs) { a.Comms = []int{5, n} }))
	}
	for _, n := range []int{-2, math.MinInt, api.Max32 + 1, math.MaxInt} {
		l = append(l,
			plain(func(a *api.Attrs) { a.Med = n }),
			plain(func(a *api.Attrs) { a.Pref = n }))
	}
	return l
}

// P5.1: just what may be is put.
func TestCheck(t *testing.T) {
	taken := func(a api.Attrs, four bool) {
		b, e := attr.Put(a, four)
		if attr.Check(a, four) != api.OK || e != api.OK || len(b) == 0 {
			t.Error(a, four, e)
		}
	}
	refused := func(a api.Attrs, four bool) {
		b, e := attr.Put(a, four)
		if attr.Check(a, four) != api.ErrAttr || e != api.ErrAttr || len(b) != 0 {
			t.Error(a, four, b, e)
		}
	}
	for _, a := range may() {
		taken(a, false)
		taken(a, true)
	}
	for _, a := range mayFour() {
		refused(a, false)
		taken(a, true)
	}
	for _, a := range mayNot() {
		refused(a, false)
		refused(a, true)
	}
}

// Attributes as bytes, of plain's parts.
var (
	origin = []byte{64, 1, 1, 0}
	noPath = []byte{64, 2, 0}
	next   = []byte{64, 3, 4, 10, 0, 0, 1}
	least  = join(origin, noPath, next)
)

func join(l ...[]byte) []byte { return bytes.Join(l, nil) }

// P5.1: the bytes, one by one.
func TestPut(t *testing.T) {
	all := may()[len(may())-1]
	for i, x := range []struct {
		a    api.Attrs
		four bool
		b    []byte
	}{
		{plain(nil), true, []byte{64, 1, 1, 0, 64, 2, 0, 64, 3, 4, 10, 0, 0, 1}},
		{plain(nil), false, []byte{64, 1, 1, 0, 64, 2, 0, 64, 3, 4, 10, 0, 0, 1}},
		{all, false, []byte{64, 1, 1, 2, 64, 2, 14, 2, 2, 253, 233, 253, 234, 1, 3, 0, 5, 0, 6, 0, 7, 64, 3, 4, 10, 0, 0, 2,
			128, 4, 4, 0, 0, 0, 50, 64, 5, 4, 0, 0, 0, 200, 192, 8, 8, 253, 233, 0, 77, 0, 0, 0, 3}},
		{all, true, []byte{64, 1, 1, 2, 64, 2, 24, 2, 2, 0, 0, 253, 233, 0, 0, 253, 234, 1, 3, 0, 0, 0, 5, 0, 0, 0, 6, 0, 0, 0, 7, 64, 3, 4, 10, 0, 0, 2,
			128, 4, 4, 0, 0, 0, 50, 64, 5, 4, 0, 0, 0, 200, 192, 8, 8, 253, 233, 0, 77, 0, 0, 0, 3}},
		{plain(func(a *api.Attrs) { a.Med = 0 }), true, join(least, []byte{128, 4, 4, 0, 0, 0, 0})},
		{plain(func(a *api.Attrs) { a.Pref = 0 }), true, join(least, []byte{64, 5, 4, 0, 0, 0, 0})},
		{plain(func(a *api.Attrs) { a.Med, a.Pref = 0x01020304, api.Max32 }), true, join(least, []byte{128, 4, 4, 1, 2, 3, 4, 64, 5, 4, 255, 255, 255, 255})},
		{plain(func(a *api.Attrs) { a.Comms = []int{0} }), true, join(least, []byte{192, 8, 4, 0, 0, 0, 0})},
		{plain(func(a *api.Attrs) { a.Comms = []int{7, 0x01020304, 7} }), true, join(least, []byte{192, 8, 12, 0, 0, 0, 7, 1, 2, 3, 4, 0, 0, 0, 7})},
		{plain(func(a *api.Attrs) { a.Path = path(row(65536, api.MaxAS)) }), true, join(origin, []byte{64, 2, 10, 2, 2, 0, 1, 0, 0, 255, 255, 255, 255}, next)},
	} {
		if b, e := attr.Put(x.a, x.four); e != api.OK || !bytes.Equal(b, x.b) {
			t.Error(i, b, e)
		}
	}
}

// P5.1: a length above 255 has two bytes, one of 255 (or less) has not.
func TestPutLong(t *testing.T) {
	for _, x := range []struct {
		path []api.Segment
		four bool
		head []byte
	}{
		{path(row(times(62, 9)...)), true, []byte{64, 2, 250, 2, 62, 0}},
		{path(row(times(63, 9)...)), true, []byte{64, 2, 254, 2, 63, 0}},
		{path(row(times(64, 9)...)), true, []byte{80, 2, 1, 2, 2, 64, 0}},
		{path(row(times(64, 9)...), set(times(60, 9)...)), false, []byte{64, 2, 252, 2, 64, 0}},
		{path(row(times(64, 9)...), set(times(61, 9)...)), false, []byte{64, 2, 254, 2, 64, 0}},
		{path(row(times(64, 9)...), set(times(62, 9)...)), false, []byte{80, 2, 1, 0, 2, 64, 0}},
		{slices.Repeat(path(set(times(64, 9)...)), 8), true, []byte{80, 2, 8, 16, 1, 64, 0}},
	} {
		a := plain(func(a *api.Attrs) { a.Path = x.path })
		b, e := attr.Put(a, x.four)
		if e != api.OK || !bytes.HasPrefix(b, join(origin, x.head)) || !bytes.HasSuffix(b, next) {
			t.Error(b, e)
		}
	}
}

// P5.1: what is read of bytes that Put does not make, but that are fine.
func TestGet(t *testing.T) {
	other := func(flags byte) []byte { return []byte{flags, 99, 2, 8, 9} }
	for i, x := range []struct {
		b    []byte
		want api.Attrs
	}{
		{least, plain(nil)},
		{join(next, noPath, origin), plain(nil)},                                                                            // in any order
		{[]byte{79, 1, 1, 0, 65, 2, 0, 72, 3, 4, 10, 0, 0, 1}, plain(nil)},                                                  // the lowest four bits count for nothing
		{[]byte{80, 1, 0, 1, 0, 80, 2, 0, 0, 95, 3, 0, 4, 10, 0, 0, 1}, plain(nil)},                                         // short, but with two bytes
		{join(least, []byte{80, 5, 0, 4, 0, 0, 0, 9}), plain(func(a *api.Attrs) { a.Pref = 9 })},                            // with no Med
		{join(least, []byte{143, 4, 4, 0, 0, 0, 0}), plain(func(a *api.Attrs) { a.Med = 0 })},                               // with no Pref
		{join([]byte{223, 8, 0, 4, 0, 0, 1, 0}, least), plain(func(a *api.Attrs) { a.Comms = []int{256} })},                 // ahead of the others
		{join(origin, []byte{64, 2, 4, 2, 1, 0, 7}, next), plain(func(a *api.Attrs) { a.Path = path(row(7)) })},             // of 2 bytes
		{join(origin, []byte{64, 2, 4, 1, 1, 255, 255}, next), plain(func(a *api.Attrs) { a.Path = path(set(65535)) })},     // the greatest of them
		{join(origin, []byte{64, 2, 4, 1, 1, 0, 0}, next, other(128)), plain(func(a *api.Attrs) { a.Path = path(set(0)) })}, // AS number 0
		{join(other(128), least, other(192), other(224), other(255)[:1], []byte{99, 0, 0}), plain(nil)},
		{join(least, []byte{128, 0, 0, 128, 6, 0, 192, 7, 1, 0, 128, 9, 0, 128, 255, 0}), plain(nil)}, // those between and beyond
		{join(least, other(128), other(128)), plain(nil)},
		{join(least, []byte{144, 99, 1, 0}, make([]byte, 256)), plain(nil)},
		// What is there already is passed over, right or wrong.
		{join(least, []byte{64, 1, 1, 2}), plain(nil)},
		{join(least, []byte{64, 1, 1, 3}), plain(nil)},
		{join(least, []byte{0, 1, 0, 128, 2, 1, 9, 192, 3, 4, 0, 0, 0, 0}), plain(nil)},
		{join(least, []byte{64, 3, 4, 1, 1, 1, 1, 64, 2, 4, 2, 1, 0, 9}), plain(nil)},
		{join(least, []byte{128, 4, 4, 0, 0, 0, 1, 128, 4, 4, 0, 0, 0, 2, 64, 4, 1, 0}), plain(func(a *api.Attrs) { a.Med = 1 })},
		{join(least, []byte{64, 5, 4, 0, 0, 0, 1, 64, 5, 4, 0, 0, 0, 2, 0, 5, 0}), plain(func(a *api.Attrs) { a.Pref = 1 })},
		{join(least, []byte{192, 8, 4, 0, 0, 0, 1, 192, 8, 4, 0, 0, 0, 2, 192, 8, 0}), plain(func(a *api.Attrs) { a.Comms = []int{1} })},
	} {
		if a, v := attr.Get(x.b, false); v != api.VerdictFine || !reflect.DeepEqual(a, x.want) {
			t.Error(i, a, v)
		}
	}
}

// P5.1: each thing that is wrong is bad, even where what must be there is not.
func TestGetBad(t *testing.T) {
	l := [][]byte{
		{64}, {64, 1}, {64, 1, 1}, {80, 1, 0}, {80, 2, 1, 0}, {128, 99, 1}, {144, 99, 0, 1}, // cut off
		{64, 1, 0}, {64, 1, 2, 0, 0}, {64, 1, 1, 3}, {64, 1, 1, 255}, // Origin
		{64, 3, 0}, {64, 3, 3, 1, 2, 3}, {64, 3, 5, 1, 2, 3, 4, 5}, {64, 3, 4, 0, 0, 0, 0}, {64, 3, 8, 1, 2, 3, 4, 1, 2, 3, 4},
		{128, 4, 0}, {128, 4, 3, 0, 0, 1}, {128, 4, 5, 0, 0, 0, 0, 1},
		{64, 5, 0}, {64, 5, 3, 0, 0, 1}, {64, 5, 5, 0, 0, 0, 0, 1},
		{192, 8, 0}, {192, 8, 1, 0}, {192, 8, 3, 0, 0, 1}, {192, 8, 5, 0, 0, 0, 1, 0}, {192, 8, 6, 0, 0, 0, 1, 0, 0},
		append([]byte{192, 8, 132}, make([]byte, 132)...), // 33 communities
		{64, 99, 0}, {0, 99, 0}, {64, 0, 0}, {127, 6, 0}, {96, 7, 0}, {64, 9, 0}, {0, 255, 0}, {80, 9, 0, 0}, // others without 128
	}
	good := map[int][]byte{1: {1, 0}, 2: {0}, 3: {4, 1, 1, 1, 1}, 4: {4, 0, 0, 0, 1}, 5: {4, 0, 0, 0, 1}, 8: {4, 0, 0, 0, 1}}
	own := map[int]byte{1: 64, 2: 64, 3: 64, 4: 128, 5: 64, 8: 192}
	for kind, data := range good {
		for _, flags := range []byte{0, 32, 64, 96, 128, 160, 192, 224} {
			if flags != own[kind] {
				l = append(l, append([]byte{flags, byte(kind)}, data...), append([]byte{flags | 15, byte(kind)}, data...))
			}
		}
	}
	for _, one := range l {
		bad(t, one)
		bad(t, join(without(one, origin, noPath, next), one))
	}
}

// P5.1: what is cut off is bad, even if its type is there already.
func TestGetCutOff(t *testing.T) {
	for _, one := range [][]byte{{64}, {64, 1}, {64, 1, 1}, {80, 1, 0}, {80, 1, 0, 1}, {64, 2, 1}, {64, 3, 4, 10, 0, 0}, {80, 3, 1, 0, 10}, {128, 99, 3, 0, 0}} {
		bad(t, join(least, one))
	}
}

// bad looks whether b is bad, with AS numbers of either kind.
func bad(t *testing.T, b []byte) {
	t.Helper()
	for _, four := range []bool{false, true} {
		if a, v := attr.Get(b, four); v != api.VerdictBad || !reflect.DeepEqual(a, api.Attrs{}) {
			t.Error(b, four, a, v)
		}
	}
}

// without is those of l, one behind the other, that have not the type of one.
func without(one []byte, l ...[]byte) []byte {
	return join(slices.DeleteFunc(slices.Clone(l), func(x []byte) bool { return len(one) > 1 && x[1] == one[1] })...)
}

// P5.1: segments that may not be.
func TestGetPath(t *testing.T) {
	many := func(n int, s ...byte) []byte { return bytes.Repeat(s, n) }
	for i, x := range []struct {
		data []byte
		four bool
		want int
	}{
		{nil, false, api.VerdictFine},
		{[]byte{2}, false, api.VerdictBad},
		{[]byte{2, 1}, false, api.VerdictBad},
		{[]byte{2, 1, 0}, false, api.VerdictBad},
		{[]byte{2, 1, 0, 1}, false, api.VerdictFine},
		{[]byte{2, 1, 0, 1}, true, api.VerdictBad},
		{[]byte{2, 1, 0, 1, 0}, true, api.VerdictBad},
		{[]byte{2, 1, 0, 1, 0, 0}, true, api.VerdictFine},
		{[]byte{2, 1, 0, 1, 0, 0}, false, api.VerdictBad},
		{[]byte{2, 2, 0, 1, 0}, false, api.VerdictBad},
		{[]byte{1, 1, 0, 1, 2}, false, api.VerdictBad},
		{[]byte{1, 1, 0, 1, 2, 1, 0, 2}, false, api.VerdictFine},
		{[]byte{0, 1, 0, 1}, false, api.VerdictBad},
		{[]byte{3, 1, 0, 1}, false, api.VerdictBad},
		{[]byte{4, 1, 0, 1}, false, api.VerdictBad},
		{[]byte{255, 1, 0, 1}, false, api.VerdictBad},
		{[]byte{2, 1, 0, 1, 3, 1, 0, 1}, false, api.VerdictBad},
		{[]byte{2, 0}, false, api.VerdictBad},
		{[]byte{1, 0}, true, api.VerdictBad},
		{[]byte{2, 0, 2, 1, 0, 1}, false, api.VerdictBad},
		{[]byte{2, 1, 0, 1, 1, 0}, false, api.VerdictBad},
		{append([]byte{2, 64}, many(64, 0, 1)...), false, api.VerdictFine},
		{append([]byte{2, 65}, many(65, 0, 1)...), false, api.VerdictBad},
		{append([]byte{1, 64}, many(64, 0, 0, 0, 1)...), true, api.VerdictFine},
		{append([]byte{1, 65}, many(65, 0, 0, 0, 1)...), true, api.VerdictBad},
		{append([]byte{2, 255}, many(255, 0, 1)...), false, api.VerdictBad},
		{many(8, 2, 1, 0, 1), false, api.VerdictFine},
		{many(9, 2, 1, 0, 1), false, api.VerdictBad},
		{many(8, append([]byte{1, 64}, many(64, 255, 255, 255, 255)...)...), true, api.VerdictFine},
		{many(9, append([]byte{1, 64}, many(64, 255, 255, 255, 255)...)...), true, api.VerdictBad},
	} {
		head := []byte{80, 2, byte(len(x.data) >> 8), byte(len(x.data))}
		a, v := attr.Get(join(origin, head, x.data, next), x.four)
		if v != x.want || v != api.VerdictFine && !reflect.DeepEqual(a, api.Attrs{}) {
			t.Error(i, a, v)
		}
	}
}

// P5.1: as many communities as may be.
func TestGetComms(t *testing.T) {
	b := append([]byte{192, 8, 128}, bytes.Repeat([]byte{1, 2, 3, 4}, 32)...)
	if a, v := attr.Get(join(least, b), true); v != api.VerdictFine || !slices.Equal(a.Comms, times(32, 0x01020304)) {
		t.Error(a, v)
	}
}

// P5.1: without one that must be there the verdict is less, if nothing is bad.
func TestGetLess(t *testing.T) {
	rest := []byte{128, 4, 4, 0, 0, 0, 1, 64, 5, 4, 0, 0, 0, 1, 192, 8, 4, 0, 0, 0, 1, 128, 99, 0}
	for _, b := range [][]byte{
		nil, {}, origin, noPath, next, rest,
		join(origin, noPath), join(origin, next), join(noPath, next),
		join(origin, noPath, rest), join(origin, next, rest), join(noPath, next, rest),
		join(origin, origin, origin), join(noPath, noPath, next, next),
		{128, 99, 0},
	} {
		if a, v := attr.Get(b, true); v != api.VerdictLess || !reflect.DeepEqual(a, api.Attrs{}) {
			t.Error(b, a, v)
		}
		if a, v := attr.Get(append(slices.Clone(b), 64), true); v != api.VerdictBad || !reflect.DeepEqual(a, api.Attrs{}) {
			t.Error(b, a, v)
		}
	}
}

// P5.2: one part that is another one, and nil beside the empty list.
func TestSame(t *testing.T) {
	full := func() api.Attrs {
		return api.Attrs{Origin: 1, Path: path(row(1, 2), set(3, 4)), Next: 5, Med: 6, Pref: 7, Comms: []int{8, 9}}
	}
	if !attr.Same(full(), full()) || !attr.Same(api.Attrs{}, api.Attrs{Path: []api.Segment{}, Comms: []int{}}) {
		t.Error("same ones")
	}
	empty := func(as []int) api.Attrs { return api.Attrs{Path: []api.Segment{{AS: as}}} }
	if !attr.Same(empty(nil), empty([]int{})) || attr.Same(empty(nil), api.Attrs{}) || attr.Same(empty(nil), empty([]int{0})) {
		t.Error("segments without numbers")
	}
	for i, change := range []func(a *api.Attrs){
		func(a *api.Attrs) { a.Origin = 2 },
		func(a *api.Attrs) { a.Next = 6 },
		func(a *api.Attrs) { a.Med = 7 },
		func(a *api.Attrs) { a.Med = -1 },
		func(a *api.Attrs) { a.Pref = 8 },
		func(a *api.Attrs) { a.Pref = -1 },
		func(a *api.Attrs) { a.Path = nil },
		func(a *api.Attrs) { a.Path = a.Path[:1] },
		func(a *api.Attrs) { a.Path = append(a.Path, row(5)) },
		func(a *api.Attrs) { a.Path[0].Set = true },
		func(a *api.Attrs) { a.Path[1].Set = false },
		func(a *api.Attrs) { a.Path[0].AS[1] = 3 },
		func(a *api.Attrs) { a.Path[1].AS = []int{4, 3} },
		func(a *api.Attrs) { a.Path[1].AS = []int{3} },
		func(a *api.Attrs) { a.Path = path(row(1), row(2), set(3, 4)) },
		func(a *api.Attrs) { a.Path = path(set(3, 4), row(1, 2)) },
		func(a *api.Attrs) { a.Comms = nil },
		func(a *api.Attrs) { a.Comms = []int{8} },
		func(a *api.Attrs) { a.Comms = []int{9, 8} },
		func(a *api.Attrs) { a.Comms = []int{8, 9, 9} },
	} {
		a := full()
		change(&a)
		if attr.Same(a, full()) || attr.Same(full(), a) || !attr.Same(a, a) {
			t.Error(i, a)
		}
	}
}

// P5.2: what is seen of paths, those that may not be too.
func TestLooks(t *testing.T) {
	for _, x := range []struct {
		path          []api.Segment
		length, first int
		has, not      []int
	}{
		{nil, 0, 0, nil, []int{0, 1, -1}},
		{path(row(65001, 65002), set(5, 6, 7)), 3, 65001, []int{65001, 65002, 5, 6, 7}, []int{0, 8, 65000}},
		{path(set(5, 6, 7), row(65001, 65002)), 3, 0, []int{65001, 65002, 5, 6, 7}, []int{0}},
		{path(row(1), row(2, 3), row(4)), 4, 1, []int{1, 2, 3, 4}, []int{0, 5}},
		{path(row(9, 9, 9)), 3, 9, []int{9}, []int{3}},
		{path(set(9, 9, 9)), 1, 0, []int{9}, []int{1, 3}},
		{path(set(1), set(2)), 2, 0, []int{1, 2}, []int{3}},
		{path(row(0, 5)), 2, 0, []int{0, 5}, []int{1}},
		{path(row(api.MaxAS)), 1, api.MaxAS, []int{api.MaxAS}, []int{65535}},
		{slices.Repeat(path(row(times(64, 3)...)), 8), 512, 3, []int{3}, []int{512}},
		{path(row(-5, math.MaxInt)), 2, -5, []int{-5, math.MaxInt}, []int{5}},
		{path(set(), row(5)), 2, 0, []int{5}, []int{0}},
		{path(row(), row(5)), 1, 5, []int{5}, []int{0}},
		{path(row(), set(5)), 1, 0, []int{5}, []int{0}},
		{path(row(), row()), 0, 0, nil, []int{0}},
	} {
		a := plain(func(a *api.Attrs) { a.Path = x.path })
		if attr.Length(a) != x.length || attr.First(a) != x.first {
			t.Error(x.path, attr.Length(a), attr.First(a))
		}
		for _, as := range x.has {
			if !attr.Has(a, as) {
				t.Error(x.path, as)
			}
		}
		for _, as := range x.not {
			if attr.Has(a, as) {
				t.Error(x.path, as)
			}
		}
	}
}

// P5.3: what is put is got, and fine; what is cut off of it is not.
func TestPutIsGot(t *testing.T) {
	got := func(a api.Attrs, four bool) {
		b, e := attr.Put(a, four)
		if g, v := attr.Get(b, four); e != api.OK || v != api.VerdictFine || !attr.Same(g, a) {
			t.Error(a, four, e, g, v)
		}
		starts := places(b)
		for i := range b {
			want := api.VerdictBad
			if slices.Contains(starts, i) {
				want = api.VerdictLess
				if i > starts[2] {
					want = api.VerdictFine
				}
			}
			if _, v := attr.Get(b[:i], four); v != want {
				t.Error(a, four, i, v)
			}
		}
	}
	for _, a := range may() {
		got(a, false)
		got(a, true)
	}
	for _, a := range mayFour() {
		got(a, true)
	}
}

// places is where b's attributes begin.
func places(b []byte) []int {
	var l []int
	for i := 0; i < len(b); {
		l = append(l, i)
		if b[i]&16 != 0 {
			i += 4 + int(b[i+2])<<8 + int(b[i+3])
		} else {
			i += 3 + int(b[i+2])
		}
	}
	return l
}

// P5.1, P5.2 with R3: nothing that is handed in is changed or kept, no two lists of an answer share anything.
func TestShares(t *testing.T) {
	a := may()[len(may())-1]
	a.Path = append(a.Path, row(1))[:2]
	again := may()[len(may())-1]
	b, _ := attr.Put(a, true)
	in := slices.Clone(b)
	g, v := attr.Get(in, true)
	if v != api.VerdictFine || !bytes.Equal(in, b) || !attr.Same(a, again) || a.Path[:3][2].AS[0] != 1 {
		t.Error(g, v, in, a)
	}
	clear(in)
	if !attr.Same(g, again) {
		t.Error(g)
	}
	_ = append(append(g.Path[0].AS, 90), 91)
	g.Path[0].AS[0], g.Comms[0] = 92, 93
	if !slices.Equal(g.Path[1].AS, []int{5, 6, 7}) || !slices.Equal(g.Path[0].AS, []int{92, 65002}) {
		t.Error(g)
	}
	b[0] = 94
	if c, _ := attr.Put(a, true); c[0] != 64 {
		t.Error(c)
	}
	if g, _ := attr.Get(in[:0], true); !reflect.DeepEqual(g, api.Attrs{}) {
		t.Error(g)
	}
}

// verdict reads bytes by places, in a way of its own, and tells the verdict alone.
func verdict(b []byte, four bool) int {
	there := map[byte]bool{}
	for len(b) > 0 {
		head := 3
		if b[0]&16 != 0 {
			head = 4
		}
		if len(b) < head {
			return api.VerdictBad
		}
		size := int(b[2])
		if head == 4 {
			size = size<<8 | int(b[3])
		}
		if len(b) < head+size {
			return api.VerdictBad
		}
		flags, kind, data := b[0]&224, b[1], b[head:head+size]
		b = b[head+size:]
		own, known := map[byte]byte{1: 64, 2: 64, 3: 64, 4: 128, 5: 64, 8: 192}[kind]
		switch {
		case !known && flags < 128:
			return api.VerdictBad
		case !known || there[kind]:
			continue
		case flags != own || !dataMay(kind, data, four):
			return api.VerdictBad
		}
		there[kind] = true
	}
	if !there[1] || !there[2] || !there[3] {
		return api.VerdictLess
	}
	return api.VerdictFine
}

func dataMay(kind byte, data []byte, four bool) bool {
	switch kind {
	case 1:
		return len(data) == 1 && data[0] < 3
	case 2:
		return pathMay(data, four)
	case 3:
		return len(data) == 4 && !bytes.Equal(data, make([]byte, 4))
	case 8:
		return len(data) >= 4 && len(data) <= 128 && len(data)%4 == 0
	}
	return len(data) == 4
}

func pathMay(data []byte, four bool) bool {
	n := 0
	for ; len(data) > 0; n++ {
		if len(data) < 2 || data[0] < 1 || data[0] > 2 || data[1] < 1 || data[1] > 64 {
			return false
		}
		size := 2 + 2*int(data[1])
		if four {
			size = 2 + 4*int(data[1])
		}
		if len(data) < size {
			return false
		}
		data = data[size:]
	}
	return n <= 8
}

// R1, P5.1, P5.3: any bytes at all; what is fine may be, and is got again.
func FuzzGet(f *testing.F) {
	for _, a := range append(may(), mayFour()...) {
		for _, four := range []bool{false, true} {
			b, _ := attr.Put(a, four)
			f.Add(b, four)
		}
	}
	f.Add(join(least, []byte{128, 99, 1, 0}, least, []byte{192, 8, 4, 0, 0, 0, 1}), true)
	f.Fuzz(func(t *testing.T, b []byte, four bool) {
		a, v := attr.Get(b, four)
		if v != verdict(b, four) {
			t.Error(v)
		}
		if v != api.VerdictFine {
			if !reflect.DeepEqual(a, api.Attrs{}) {
				t.Error(a, v)
			}
			return
		}
		again, e := attr.Put(a, four)
		if g, v := attr.Get(again, four); e != api.OK || v != api.VerdictFine || !attr.Same(a, g) {
			t.Error(a, e, g, v)
		}
	})
}
