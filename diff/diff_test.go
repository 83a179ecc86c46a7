package diff_test

import (
	"cmp"
	"math"
	"reflect"
	"slices"
	"testing"
	"time"

	"bypath/addr"
	"bypath/api"
	"bypath/attr"
	"bypath/diff"
	"bypath/update"
)

// Of an update: how many bytes its body has at most behind both lengths, and how many prefixes at most go, or come, at once.
const (
	mostBytes = 4073
	mostOnce  = 1024
)

// prefix is the prefix of a text.
func prefix(s string) api.Prefix {
	p, e := addr.Parse(s)
	if e != api.OK {
		panic(s)
	}
	return p
}

// said is attributes of few bytes; those of unlike numbers are not the same.
func said(n int) api.Attrs {
	return api.Attrs{Path: []api.Segment{{AS: []int{7}}}, Next: uint32(n) + 1, Med: -1, Pref: 1000}
}

// full is attributes of all parts, with an AS number.
func full(as int) api.Attrs {
	return api.Attrs{Origin: 2, Path: []api.Segment{{AS: []int{as, 5}}, {Set: true, AS: []int{6, 7}}}, Next: 0x0a000002, Med: 50, Pref: 200, Comms: []int{7, api.Max32}}
}

// greatest is attributes of as many bytes as may be.
func greatest() api.Attrs {
	a := api.Attrs{Origin: 2, Next: 5, Med: api.Max32, Pref: api.Max32, Comms: make([]int, api.MaxComms)}
	for range api.MaxSegments {
		a.Path = append(a.Path, api.Segment{Set: true, AS: make([]int, api.MaxSegment)})
	}
	return a
}

func say(s string, a api.Attrs) api.Say { return api.Say{P: prefix(s), A: a} }

// many is n prefixes of so many bits, of which the same is said.
func many(n, bits int, a api.Attrs) []api.Say {
	var l []api.Say
	for i := range n {
		l = append(l, api.Say{P: addr.Make(uint32(i)<<(32-bits), bits), A: a})
	}
	return l
}

// goes and comes are updates of prefixes.
func goes(l ...string) api.Update { return api.Update{Gone: told(l)} }

func comes(a api.Attrs, l ...string) api.Update { return api.Update{Routes: told(l), A: a} }

func told(texts []string) []api.Nlri {
	var l []api.Nlri
	for _, s := range texts {
		l = append(l, api.Nlri{P: prefix(s)})
	}
	return l
}

// mayNot are says that may not be, whatever four is.
func mayNot() []api.Say {
	l := []api.Say{{}, {A: api.Attrs{Med: -1, Pref: -1}}, say("10.0.0.0/8", api.Attrs{Origin: 3, Next: 1}), say("10.0.0.0/8", api.Attrs{Next: 1, Comms: []int{-1}})}
	for _, as := range []int{-1, api.MaxAS + 1, math.MinInt, math.MaxInt} {
		l = append(l, say("10.0.0.0/8", full(as)))
	}
	for _, n := range []int{-2, api.Max32 + 1, math.MinInt, math.MaxInt} {
		l = append(l, say("10.0.0.0/8", api.Attrs{Next: 1, Med: n}), say("10.0.0.0/8", api.Attrs{Next: 1, Pref: n}))
	}
	for _, p := range []api.Prefix{{Addr: 1}, {Addr: 0x0a000001, Len: 8}, {Len: -1}, {Len: 33}, {Len: math.MinInt}, {Len: math.MaxInt}} {
		l = append(l, api.Say{P: p, A: said(1)})
	}
	return l
}

// refused asks Check, and Updates, which may not take l on either side, nor on both.
func refused(t *testing.T, l []api.Say, four bool) {
	t.Helper()
	if e := diff.Check(l, four); e != api.ErrArg {
		t.Error(l, four, e)
	}
	fine := []api.Say{say("11.0.0.0/8", said(1))}
	for _, x := range [][2][]api.Say{{l, nil}, {nil, l}, {l, l}, {l, fine}, {fine, l}} {
		if u, e := diff.Updates(x[0], x[1], four); e != api.ErrArg || len(u) != 0 {
			t.Error(x, four, u, e)
		}
	}
}

func taken(t *testing.T, l []api.Say, four bool) {
	t.Helper()
	if e := diff.Check(l, four); e != api.OK {
		t.Error(l, four, e)
	}
	reached(t, nil, l, four)
	reached(t, l, nil, four)
	reached(t, l, l, four)
}

// P24.1: what may be said, and what may not, wherever it stands.
func TestCheck(t *testing.T) {
	for _, four := range []bool{false, true} {
		for _, l := range [][]api.Say{
			nil, {}, {say("0.0.0.0/0", said(1))}, {say("10.0.0.0/8", full(65535)), say("10.0.0.0/9", full(65535)), say("9.0.0.0/8", said(0))},
			many(3000, 24, said(4)), {{A: api.Attrs{Next: 1}}}, {{A: api.Attrs{Next: math.MaxUint32, Med: api.Max32, Pref: api.Max32}}},
		} {
			taken(t, l, four)
		}
		for _, s := range mayNot() {
			refused(t, []api.Say{s}, four)
			refused(t, []api.Say{s, say("9.0.0.0/8", said(1)), say("12.0.0.0/8", said(1))}, four)
			refused(t, []api.Say{say("9.0.0.0/8", said(1)), s, say("12.0.0.0/8", said(1))}, four)
			refused(t, []api.Say{say("9.0.0.0/8", said(1)), say("12.0.0.0/8", said(1)), s}, four)
		}
		a, b, c := say("10.0.0.0/8", said(1)), say("10.0.0.0/9", said(1)), say("10.0.0.0/8", said(2))
		for _, l := range [][]api.Say{{a, a}, {a, c}, {c, a}, {b, a, c}, {a, b, a}, {a, a, b}, append(many(3000, 24, said(1)), many(1, 24, said(1))...)} {
			refused(t, l, four)
		}
	}
	for _, as := range []int{65536, api.MaxAS} {
		taken(t, []api.Say{say("10.0.0.0/8", full(as))}, true)
		refused(t, []api.Say{say("10.0.0.0/8", full(as))}, false)
		refused(t, []api.Say{say("9.0.0.0/8", said(1)), say("10.0.0.0/8", full(as))}, false)
	}
}

// tells asks for the updates, which must be want.
func tells(t *testing.T, was, is []api.Say, want ...api.Update) {
	t.Helper()
	for _, four := range []bool{false, true} {
		l, e := diff.Updates(was, is, four)
		if e != api.OK || !slices.EqualFunc(l, want, update.Same) {
			t.Error(four, l, e, "but not", want)
		}
		reached(t, was, is, four)
	}
}

// P24.1: the document's example, and what goes, comes, is other or as it was.
func TestUpdates(t *testing.T) {
	a, b, c := said(1), said(2), full(5)
	x, y := []api.Say{say("10.0.0.0/8", a)}, []api.Say{say("10.0.0.0/8", b)}
	tells(t, nil, []api.Say{say("10.0.0.0/8", a), say("11.0.0.0/8", a)}, comes(a, "10.0.0.0/8", "11.0.0.0/8"))
	tells(t, nil, nil)
	tells(t, []api.Say{}, []api.Say{})
	tells(t, x, x)
	tells(t, x, nil, goes("10.0.0.0/8"))
	tells(t, nil, x, comes(a, "10.0.0.0/8"))
	tells(t, x, y, comes(b, "10.0.0.0/8"))
	tells(t, y, x, comes(a, "10.0.0.0/8"))
	tells(t, x, []api.Say{say("10.0.0.0/9", a)}, goes("10.0.0.0/8"), comes(a, "10.0.0.0/9"))
	tells(t, x, []api.Say{say("10.0.0.0/9", a), x[0]}, comes(a, "10.0.0.0/9"))
	tells(t,
		[]api.Say{say("14.0.0.0/8", a), say("13.0.0.0/8", b), say("10.0.0.0/8", a), say("12.0.0.0/8", c), say("10.0.0.0/7", a)},
		[]api.Say{say("15.0.0.0/8", a), say("12.0.0.0/8", c), say("13.0.0.0/8", a), say("9.0.0.0/8", c)},
		goes("10.0.0.0/7", "10.0.0.0/8", "14.0.0.0/8"), comes(c, "9.0.0.0/8"), comes(a, "13.0.0.0/8", "15.0.0.0/8"))
}

// P24.1: any part of attributes that is another one is told; nil and empty lists are the same.
func TestOther(t *testing.T) {
	at := []api.Say{say("10.0.0.0/8", full(5))}
	for _, change := range []func(a *api.Attrs){
		func(a *api.Attrs) { a.Origin = 1 }, func(a *api.Attrs) { a.Next++ }, func(a *api.Attrs) { a.Med = -1 }, func(a *api.Attrs) { a.Pref = 0 },
		func(a *api.Attrs) { a.Path = nil }, func(a *api.Attrs) { a.Path[0].Set = true }, func(a *api.Attrs) { a.Path[0].AS[0] = 6 },
		func(a *api.Attrs) { a.Path[0].AS = []int{5} }, func(a *api.Attrs) { a.Comms = []int{7} }, func(a *api.Attrs) { a.Comms[1] = 7 },
		func(a *api.Attrs) {
			a.Path = []api.Segment{{AS: []int{5}}, {AS: []int{5}}, {Set: true, AS: []int{6, 7}}}
		},
	} {
		a := full(5)
		change(&a)
		is := []api.Say{say("10.0.0.0/8", a), say("11.0.0.0/8", full(5)), say("12.0.0.0/8", a)}
		tells(t, at, is, comes(a, "10.0.0.0/8", "12.0.0.0/8"), comes(full(5), "11.0.0.0/8"))
	}
	empty := api.Attrs{Path: []api.Segment{}, Next: 1, Comms: []int{}}
	none := api.Attrs{Next: 1}
	tells(t, []api.Say{{A: empty}}, []api.Say{{A: none}})
	tells(t, []api.Say{{A: none}}, []api.Say{{A: empty}})
	tells(t, nil, []api.Say{say("10.0.0.0/8", none), say("11.0.0.0/8", empty)}, comes(none, "10.0.0.0/8", "11.0.0.0/8"))
}

// P24.1: those with the same attributes come behind the first one, ahead of others that stand between; the order of what is handed in is not to be seen.
func TestGroups(t *testing.T) {
	a, b, c := said(1), said(2), said(3)
	is := []api.Say{say("1.0.0.0/8", b), say("2.0.0.0/8", a), say("3.0.0.0/8", c), say("4.0.0.0/8", a), say("5.0.0.0/8", b), say("6.0.0.0/8", c), say("7.0.0.0/8", b)}
	was := []api.Say{say("20.0.0.0/8", a), say("21.0.0.0/8", b), say("22.0.0.0/8", c), say("5.0.0.0/8", c), say("6.0.0.0/8", c)}
	for i := range is {
		turned := slices.Concat(is[i:], is[:i])
		tells(t, nil, turned, comes(b, "1.0.0.0/8", "5.0.0.0/8", "7.0.0.0/8"), comes(a, "2.0.0.0/8", "4.0.0.0/8"), comes(c, "3.0.0.0/8", "6.0.0.0/8"))
		before := slices.Concat(was[i%5:], was[:i%5])
		tells(t, before, turned, goes("20.0.0.0/8", "21.0.0.0/8", "22.0.0.0/8"), comes(b, "1.0.0.0/8", "5.0.0.0/8", "7.0.0.0/8"), comes(a, "2.0.0.0/8", "4.0.0.0/8"), comes(c, "3.0.0.0/8"))
	}
}

// counts are how many go, and come, by each update.
func counts(t *testing.T, was, is []api.Say, four bool, want ...[2]int) {
	t.Helper()
	l, e := diff.Updates(was, is, four)
	var got [][2]int
	for _, u := range l {
		got = append(got, [2]int{len(u.Gone), len(u.Routes)})
	}
	if e != api.OK || !slices.Equal(got, want) {
		t.Error(got, e, "but not", want)
	}
	reached(t, was, is, four)
}

// P24.1: as many go at once as an update has: by their bytes, or by their number.
func TestMostGone(t *testing.T) {
	for _, x := range []struct{ bits, once int }{{16, mostOnce}, {17, mostBytes / 4}, {24, mostBytes / 4}, {25, mostBytes / 5}, {32, mostBytes / 5}} {
		for _, four := range []bool{false, true} {
			counts(t, many(x.once, x.bits, said(1)), nil, four, [2]int{x.once, 0})
			counts(t, many(x.once+1, x.bits, said(1)), nil, four, [2]int{x.once, 0}, [2]int{1, 0})
			counts(t, many(2*x.once+5, x.bits, said(1)), many(1, x.bits, said(2)), four, [2]int{x.once, 0}, [2]int{x.once, 0}, [2]int{4, 0}, [2]int{0, 1})
		}
	}
}

// P24.1: likewise of prefixes of unlike lengths: some of 3 bytes, and 900 of 5 behind them.
func TestMostMixed(t *testing.T) {
	var narrow []api.Say
	for i := range 900 {
		narrow = append(narrow, api.Say{P: addr.Make(0xf0000000+uint32(i), 32), A: said(2)})
	}
	for _, x := range []struct{ wide, once int }{{0, 814}, {1, 1 + 814}, {100, 100 + 754}, {523, 523 + 500}, {524, mostOnce}, {525, mostOnce}, {1000, mostOnce}, {1024, mostOnce}} {
		want := [][2]int{{x.once, 0}}
		for left := x.wide + len(narrow) - x.once; left > 0; left -= mostBytes / 5 {
			want = append(want, [2]int{min(left, mostBytes/5), 0})
		}
		counts(t, append(many(x.wide, 16, said(1)), narrow...), nil, true, want...)
	}
}

// P24.1: as many come at once as can, beside the bytes of their attributes.
func TestMostRoutes(t *testing.T) {
	for _, a := range []api.Attrs{said(1), full(5), greatest(), {Next: 1}} {
		for _, bits := range []int{16, 24, 32} {
			for _, four := range []bool{false, true} {
				b, _ := attr.Put(a, four)
				once := min((mostBytes-len(b))/(1+bits/8), mostOnce)
				counts(t, nil, many(once, bits, a), four, [2]int{0, once})
				counts(t, nil, many(once+1, bits, a), four, [2]int{0, once}, [2]int{0, 1})
				counts(t, many(1, 1, a), many(2*once+3, bits, a), four, [2]int{1, 0}, [2]int{0, once}, [2]int{0, once}, [2]int{0, 3})
			}
		}
	}
}

// P24.1: all with the same attributes come, by however many updates, ahead of the first one with others.
func TestMostGroups(t *testing.T) {
	is := many(2400, 24, said(1))
	for i := range is {
		is[i].A = said(i % 2)
	}
	once := update.Fit(mostNlris(is), said(0), true, false)
	counts(t, nil, is, true, [2]int{0, once}, [2]int{0, 1200 - once}, [2]int{0, once}, [2]int{0, 1200 - once})
	l, _ := diff.Updates(nil, is, true)
	for i, want := range []int{0, 0, 1, 1} {
		if !attr.Same(l[i].A, said(want)) {
			t.Error(i, l[i].A)
		}
	}
	if l[0].Routes[0].P != is[0].P || l[1].Routes[0].P != is[2*once].P || l[2].Routes[0].P != is[1].P || l[3].Routes[0].P != is[2*once+1].P {
		t.Error(l[1].Routes[0], l[3].Routes[0])
	}
}

// mostNlris are the prefixes of l, as many as there may be at once.
func mostNlris(l []api.Say) []api.Nlri {
	var out []api.Nlri
	for _, s := range l[:min(len(l), mostOnce)] {
		out = append(out, api.Nlri{P: s.P})
	}
	return out
}

// sorted is l in order.
func sorted(l []api.Say) []api.Say {
	l = slices.Clone(l)
	slices.SortFunc(l, func(s, t api.Say) int { return addr.Compare(s.P, t.P) })
	return l
}

func sameSay(s, t api.Say) bool { return s.P == t.P && attr.Same(s.A, t.A) }

// find is what is said of p in l.
func find(l []api.Say, p api.Prefix) (api.Attrs, bool) {
	at := slices.IndexFunc(l, func(s api.Say) bool { return s.P == p })
	if at < 0 {
		return api.Attrs{}, false
	}
	return l[at].A, true
}

// P24.2: reached asks that the updates can be put, that each tells either what goes or what comes, that none has room for the next one's first, and that behind all of them is is said.
func reached(t *testing.T, was, is []api.Say, four bool) {
	t.Helper()
	l, e := diff.Updates(was, is, four)
	if e != api.OK {
		t.Error(e)
	}
	behind := was
	for i, u := range l {
		if update.Check(u, four, false) != api.OK || (len(u.Gone) == 0) == (len(u.Routes) == 0) {
			t.Error(i, len(u.Gone), len(u.Routes), u.A)
		}
		if i > 0 && attr.Same(u.A, l[i-1].A) && (len(u.Gone) == 0) == (len(l[i-1].Gone) == 0) {
			more := l[i-1]
			more.Gone = slices.Concat(more.Gone, u.Gone[:min(len(u.Gone), 1)])
			more.Routes = slices.Concat(more.Routes, u.Routes[:min(len(u.Routes), 1)])
			if update.Check(more, four, false) == api.OK {
				t.Error(i, "one more has room")
			}
		}
		behind = diff.Apply(behind, u)
	}
	if !slices.EqualFunc(behind, sorted(is), sameSay) && len(l) > 0 {
		t.Error(len(behind), len(is))
	}
	if again, e := diff.Updates(behind, is, four); e != api.OK || len(again) != 0 {
		t.Error(again, e)
	}
	if same, e := diff.Updates(is, is, four); e != api.OK || len(same) != 0 {
		t.Error(same, e)
	}
}

// P24.1: what goes is not said, what comes is, in order; what is in both comes.
func TestApply(t *testing.T) {
	a, b, c := said(1), said(2), full(5)
	l := []api.Say{say("11.0.0.0/8", b), say("10.0.0.0/8", a), say("10.0.0.0/9", c)}
	for i, x := range []struct {
		l    []api.Say
		u    api.Update
		want []api.Say
	}{
		{nil, api.Update{}, nil},
		{[]api.Say{}, api.Update{Gone: told([]string{"10.0.0.0/8"})}, nil},
		{l, api.Update{}, []api.Say{l[1], l[2], l[0]}},
		{l, goes("10.0.0.0/8", "9.0.0.0/8"), []api.Say{l[2], l[0]}},
		{l, goes("10.0.0.0/8", "10.0.0.0/9", "11.0.0.0/8", "10.0.0.0/8"), nil},
		{l, goes("10.0.0.0/7", "10.0.0.0/10", "0.0.0.0/0"), []api.Say{l[1], l[2], l[0]}},
		{l, comes(c, "12.0.0.0/8", "9.0.0.0/8", "10.0.0.0/8"), []api.Say{say("9.0.0.0/8", c), say("10.0.0.0/8", c), l[2], l[0], say("12.0.0.0/8", c)}},
		{nil, comes(b, "10.0.0.0/8", "9.0.0.0/8", "10.0.0.0/8"), []api.Say{say("9.0.0.0/8", b), say("10.0.0.0/8", b)}},
		{l, api.Update{Gone: told([]string{"10.0.0.0/8", "11.0.0.0/8", "9.0.0.0/8"}), Routes: told([]string{"9.0.0.0/8", "11.0.0.0/8"}), A: c}, []api.Say{say("9.0.0.0/8", c), l[2], say("11.0.0.0/8", c)}},
		// Several paths are not told: an ID counts for nothing.
		{l, api.Update{Gone: []api.Nlri{{ID: 5, P: prefix("10.0.0.0/8")}}, Routes: []api.Nlri{{ID: 1, P: prefix("11.0.0.0/8")}, {ID: 2, P: prefix("11.0.0.0/8")}}, A: c}, []api.Say{l[2], say("11.0.0.0/8", c)}},
		{l, api.Update{Gone: told([]string{"10.0.0.0/8"}), Soft: true}, []api.Say{l[2], l[0]}},
	} {
		if got := diff.Apply(x.l, x.u); !slices.EqualFunc(got, x.want, sameSay) {
			t.Error(i, got)
		}
	}
}

// R1: what may not be is no reason to fail.
func TestApplyOdd(t *testing.T) {
	odd := mayNot()
	var u api.Update
	for _, s := range odd {
		u.Gone = append(u.Gone, api.Nlri{ID: -1, P: s.P})
	}
	if l := diff.Apply(odd, u); len(l) != 0 {
		t.Error(l)
	}
	u.Gone, u.Routes = nil, u.Gone
	l := diff.Apply(odd, u)
	if !slices.IsSortedFunc(l, func(s, t api.Say) int { return addr.Compare(s.P, t.P) }) || len(l) != 8 {
		t.Error(l)
	}
}

// P24.1: of a route its prefix, Origin, Path and Next, and a preference.
func TestOf(t *testing.T) {
	for _, pref := range []int{-1, 0, 1000, api.Max32, math.MinInt, math.MaxInt} {
		for _, a := range []api.Attrs{{}, said(3), full(9), greatest(), {Origin: 1, Path: []api.Segment{{}}, Med: 7}} {
			r := api.Route{Key: api.Key{Router: 3, P: prefix("10.1.0.0/16"), ID: 6}, A: a}
			want := api.Say{P: r.Key.P, A: api.Attrs{Origin: a.Origin, Path: a.Path, Next: a.Next, Med: -1, Pref: pref}}
			if got := diff.Of(r, pref); !reflect.DeepEqual(got, want) {
				t.Error(got, want)
			}
		}
	}
	if s := diff.Of(api.Route{Key: api.Key{P: api.Prefix{Addr: 1, Len: -5}}}, 4); s.P != (api.Prefix{Addr: 1, Len: -5}) {
		t.Error(s)
	}
}

// spoil changes all lists of a, and puts something behind them.
func spoil(a api.Attrs) {
	for i, s := range a.Path {
		for j := range s.AS {
			s.AS[j] = -1
		}
		_ = append(s.AS, -2)
		a.Path[i] = api.Segment{}
	}
	for i := range a.Comms {
		a.Comms[i] = -1
	}
	_ = append(a.Path, api.Segment{AS: []int{-3}})
	_ = append(a.Comms, -3)
}

// R3: nothing that is handed in is changed, or looked at behind its end; the lists of an answer are its own, each one.
func TestOwn(t *testing.T) {
	lists := func() (was, is []api.Say) {
		for i := range 2400 {
			was = append(was, api.Say{P: addr.Make(uint32(2400-i)<<8, 24), A: full(i % 2)})
			is = append(is, api.Say{P: addr.Make(uint32(2500-i)<<8, 24), A: full(i / 200)})
			is = append(is, api.Say{P: addr.Make(uint32(9000-i)<<8, 24), A: full(9)})
		}
		return was, is
	}
	was, is := lists()
	first, _ := diff.Updates(was[:2300], is[:4700], true)
	if len(first) < 6 {
		t.Fatal(len(first))
	}
	for i := range first {
		again, _ := diff.Updates(was[:2300], is[:4700], true)
		spoil(again[i].A)
		for _, l := range [][]api.Nlri{again[i].Gone, again[i].Routes} {
			for k := range l {
				l[k].ID = 9
			}
			_ = append(l, api.Nlri{ID: 8})
		}
		again[i] = first[i]
		if !slices.EqualFunc(again, first, update.Same) {
			t.Error(i, "shares with another one")
		}
	}
	oldWas, oldIs := lists()
	if !reflect.DeepEqual(was, oldWas) || !reflect.DeepEqual(is, oldIs) {
		t.Error("what is handed in is another one")
	}
}

// R3: as TestOwn, of Apply and of Of.
func TestOwnApply(t *testing.T) {
	l, u := []api.Say{say("12.0.0.0/8", full(1)), say("11.0.0.0/8", full(2)), say("10.0.0.0/8", full(3))}, comes(full(4), "9.0.0.0/8", "8.0.0.0/8")
	first := diff.Apply(l[:2], u)
	if len(first) != 4 {
		t.Fatal(first)
	}
	for i := range first {
		again := diff.Apply(l[:2], u)
		spoil(again[i].A)
		again[i] = first[i]
		if !reflect.DeepEqual(again, first) || !reflect.DeepEqual(l[0].A, full(1)) || !reflect.DeepEqual(l[1].A, full(2)) || !reflect.DeepEqual(u.A, full(4)) {
			t.Error(i, "shares with another one")
		}
	}
	_ = append(first[:2], api.Say{}, api.Say{})
	if l[0].P != prefix("12.0.0.0/8") || l[2].P != prefix("10.0.0.0/8") {
		t.Error(l)
	}
	r := api.Route{A: full(5)}
	spoil(diff.Of(r, 5).A)
	if !reflect.DeepEqual(r.A, full(5)) {
		t.Error(r)
	}
}

// modelled are the updates just as the chapter's words say, each prefix looked for by itself.
func modelled(was, is []api.Say, four bool) []api.Update {
	var gone, left []api.Say
	for _, s := range sorted(was) {
		if _, there := find(is, s.P); !there {
			gone = append(gone, s)
		}
	}
	for _, s := range sorted(is) {
		if a, there := find(was, s.P); !there || !attr.Same(a, s.A) {
			left = append(left, s)
		}
	}
	var l []api.Update
	for _, s := range gone {
		more := len(l) > 0
		if more {
			u := l[len(l)-1]
			u.Gone = append(slices.Clone(u.Gone), api.Nlri{P: s.P})
			more = update.Check(u, four, false) == api.OK
		}
		if !more {
			l = append(l, api.Update{})
		}
		l[len(l)-1].Gone = append(l[len(l)-1].Gone, api.Nlri{P: s.P})
	}
	for len(left) > 0 {
		a, others := left[0].A, []api.Say(nil)
		var same []api.Nlri
		for _, s := range left {
			if attr.Same(s.A, a) {
				same = append(same, api.Nlri{P: s.P})
			} else {
				others = append(others, s)
			}
		}
		for len(same) > 0 {
			n := update.Fit(same, a, four, false)
			l = append(l, api.Update{Routes: same[:n], A: a})
			same = same[n:]
		}
		left = others
	}
	return l
}

// anySays are unlike prefixes in any order, of few attributes.
func anySays(next func(below int) int, most, kinds int) []api.Say {
	var l []api.Say
	for i := range next(most + 1) {
		if next(5) == 0 {
			continue
		}
		a := said(next(kinds))
		if next(9) == 0 {
			a = full(next(3))
		}
		bits := []int{32, 24, 20, 16}[i%4]
		l = append(l, api.Say{P: addr.Make(uint32(i)<<18, bits), A: a})
	}
	slices.SortFunc(l, func(s, t api.Say) int {
		return cmp.Compare(s.P.Addr*2654435761, t.P.Addr*2654435761)
	})
	return l
}

// P24.1, P24.2: any says, held against the model.
func TestModel(t *testing.T) {
	seed := uint64(24)
	next := func(below int) int {
		seed = seed*6364136223846793005 + 1442695040888963407
		return int(seed>>33) % below
	}
	for round := range 300 {
		most, kinds := 40, 1+next(6)
		if round%30 == 0 {
			most, kinds = 4000, 2
		}
		was, is := anySays(next, most, kinds), anySays(next, most, kinds)
		four := next(2) == 0
		l, e := diff.Updates(was, is, four)
		if want := modelled(was, is, four); e != api.OK || !slices.EqualFunc(l, want, update.Same) {
			t.Fatal(round, len(was), len(is), len(l), len(want), e)
		}
		reached(t, was, is, four)
	}
}

// P24.1: as many as there may be in force, all unlike, and many more of few kinds, are told soon.
func TestMany(t *testing.T) {
	unlike := many(api.MaxOvers, 24, said(0))
	for i := range unlike {
		unlike[i].A = greatest()
		unlike[i].A.Next = uint32(i) + 1
	}
	alike := many(1<<18, 24, said(1))
	begun := time.Now()
	l, e := diff.Updates(alike, unlike, true)
	once := mostBytes / 4
	if e != api.OK || len(l) != (len(alike)-len(unlike)+once-1)/once+len(unlike) {
		t.Error(len(l), e)
	}
	reached(t, nil, alike[:1<<14], true)
	if _, e := diff.Updates(nil, alike, true); e != api.OK {
		t.Error(e)
	}
	if took := time.Since(begun); took > 20*time.Second {
		t.Error(took)
	}
}

// R1: whatever is said, no call panics, and what is promised follows.
func FuzzUpdates(f *testing.F) {
	f.Add([]byte{10, 8, 1, 0, 10, 9, 1, 1, 11, 8, 2, 0}, []byte{10, 8, 2, 0, 12, 8, 2, 1}, true)
	f.Add([]byte{10, 8, 1, 0, 10, 8, 1, 0}, []byte{200, 40, 0, 7}, false)
	f.Fuzz(func(t *testing.T, x, y []byte, four bool) {
		was, is := fuzzed(x), fuzzed(y)
		l, e := diff.Updates(was, is, four)
		if may := diff.Check(was, four) == api.OK && diff.Check(is, four) == api.OK; may != (e == api.OK) || !may && len(l) != 0 {
			t.Fatal(l, e)
		}
		if e == api.OK {
			if !slices.EqualFunc(l, modelled(was, is, four), update.Same) {
				t.Fatal(l)
			}
			reached(t, was, is, four)
		}
		diff.Apply(was, api.Update{Gone: mostNlris(is), Routes: mostNlris(was), A: said(1)})
	})
}

// fuzzed are says of four bytes each.
func fuzzed(b []byte) []api.Say {
	var l []api.Say
	for ; len(b) >= 4; b = b[4:] {
		p := addr.Make(uint32(b[0])<<24|uint32(b[3]), int(b[1])%33)
		if b[1] > 250 {
			p.Len = int(b[1])
		}
		a := said(int(b[2] % 4))
		if b[2] > 200 {
			a = full(int(b[2]) * 500)
		}
		if b[2] > 250 {
			a.Next = 0
		}
		l = append(l, api.Say{P: p, A: a})
	}
	return l
}
