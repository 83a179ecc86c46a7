package timer_test

import (
	"math"
	"slices"
	"testing"

	"bypath/api"
	"bypath/timer"
)

// mostAt is the greatest moment, most how many timers there are.
const (
	mostAt = 1<<53 - 1
	most   = 1024
)

// keys are some that may be: any numbers of peers, and of kinds.
func keys() []api.Timer {
	var l []api.Timer
	for _, peer := range []int{0, 1, 15, -1, math.MinInt, math.MaxInt} {
		for _, kind := range []int{0, api.TimerHold, api.TimerBeat, api.TimerRetry, -7, math.MinInt, math.MaxInt} {
			l = append(l, api.Timer{Peer: peer, Kind: kind})
		}
	}
	return l
}

func set(t *testing.T, x *timer.Timers, k api.Timer, at int) {
	t.Helper()
	if e := x.Set(k, at); e != api.OK {
		t.Fatal(k, at, e)
	}
}

// waits asks for k's moment.
func waits(t *testing.T, x *timer.Timers, k api.Timer, at int) {
	t.Helper()
	if n, is := x.At(k); n != at || !is {
		t.Fatal(k, at, n, is)
	}
}

// gone asks for a k that must not be there.
func gone(t *testing.T, x *timer.Timers, k api.Timer) {
	t.Helper()
	if n, is := x.At(k); n != 0 || is {
		t.Fatal(k, n, is)
	}
}

// counts asks how many there are, and for the least moment (below 0: there is none).
func counts(t *testing.T, x *timer.Timers, n, least int) {
	t.Helper()
	at, is := x.Next()
	if x.Len() != n || is != (n > 0) || at != max(least, 0) {
		t.Fatal(n, least, x.Len(), at, is)
	}
}

// due takes what is due, which must be l.
func due(t *testing.T, x *timer.Timers, now int, l ...api.Timer) {
	t.Helper()
	if got := x.Due(now); !slices.Equal(got, l) {
		t.Fatal(now, got, l)
	}
	for _, k := range l {
		gone(t, x, k)
	}
}

// P10.1: at first there are none.
func TestNew(t *testing.T) {
	x := timer.New()
	counts(t, x, 0, -1)
	for _, k := range keys() {
		gone(t, x, k)
		if x.Stop(k) {
			t.Error(k)
		}
	}
	for _, now := range []int{-1, 0, mostAt, math.MinInt, math.MaxInt} {
		due(t, x, now)
	}
}

// P10.1: which moments may be; one that may not leaves all as it was.
func TestMoments(t *testing.T) {
	x := timer.New()
	other, k := api.Timer{Peer: 1, Kind: 1}, api.Timer{Peer: 2, Kind: 1}
	for _, at := range []int{0, 1, 1 << 31, 1 << 32, mostAt - 1, mostAt} {
		set(t, x, k, at)
		waits(t, x, k, at)
		counts(t, x, 1, at)
	}
	for _, at := range []int{-1, mostAt + 1, math.MinInt, math.MaxInt} {
		for _, k := range []api.Timer{k, other} {
			if e := x.Set(k, at); e != api.ErrArg {
				t.Error(k, at, e)
			}
		}
		waits(t, x, k, mostAt)
		gone(t, x, other)
		counts(t, x, 1, mostAt)
	}
	due(t, x, mostAt-1)
	due(t, x, mostAt, k)
}

// P10.1: of a key just the last moment counts, whether it is less or more; other keys, even if half of one is the same, have their own.
func TestSetAnew(t *testing.T) {
	x := timer.New()
	a, b, c := api.Timer{Peer: 1, Kind: 2}, api.Timer{Peer: 2, Kind: 1}, api.Timer{Peer: 1, Kind: 1}
	set(t, x, a, 10)
	set(t, x, b, 20)
	set(t, x, c, 30)
	set(t, x, a, 40)
	waits(t, x, a, 40)
	waits(t, x, b, 20)
	waits(t, x, c, 30)
	counts(t, x, 3, 20)
	due(t, x, 19)
	set(t, x, c, 5)
	counts(t, x, 3, 5)
	due(t, x, 20, c, b)
	counts(t, x, 1, 40)
	due(t, x, 39)
	due(t, x, 40, a)
	set(t, x, a, 40)
	set(t, x, a, 40)
	counts(t, x, 1, 40)
	due(t, x, 100, a)
	counts(t, x, 0, -1)
}

// P10.1: any key may be there, and is stopped once.
func TestStop(t *testing.T) {
	x := timer.New()
	l := keys()
	for i, k := range l {
		set(t, x, k, 100+i)
	}
	for i, k := range l {
		waits(t, x, k, 100+i)
		counts(t, x, len(l)-i, 100+i)
		if !x.Stop(k) || x.Stop(k) {
			t.Error(k)
		}
		gone(t, x, k)
	}
	counts(t, x, 0, -1)
	due(t, x, math.MaxInt)
	set(t, x, l[0], 7)
	waits(t, x, l[0], 7)
	if !x.Stop(l[0]) {
		t.Error("set again")
	}
}

// P10.1: what is due is told by moments, then by peers, then by kinds, in whatever order it was set.
func TestOrder(t *testing.T) {
	var l []api.Timer
	for _, peer := range []int{math.MinInt, -3, 0, 2, 10, math.MaxInt} {
		for _, kind := range []int{math.MinInt, -1, 0, 1, 2, 3, math.MaxInt} {
			l = append(l, api.Timer{Peer: peer, Kind: kind})
		}
	}
	seed := uint64(5)
	for range 50 {
		x := timer.New()
		shuffled := slices.Clone(l)
		for i := range shuffled {
			k := i + next(&seed)%(len(l)-i)
			shuffled[i], shuffled[k] = shuffled[k], shuffled[i]
		}
		for _, k := range shuffled {
			set(t, x, k, 8)
		}
		first, last := api.Timer{Peer: 99, Kind: 99}, api.Timer{Peer: -99, Kind: -99}
		set(t, x, last, 9)
		set(t, x, first, 7)
		counts(t, x, len(l)+2, 7)
		due(t, x, 9, slices.Concat([]api.Timer{first}, l, []api.Timer{last})...)
		counts(t, x, 0, -1)
	}
}

// P10.1: the document's example, and what is due just at its moment.
func TestDue(t *testing.T) {
	x := timer.New()
	a, b := api.Timer{Peer: 0, Kind: api.TimerHold}, api.Timer{Peer: 0, Kind: api.TimerBeat}
	set(t, x, a, 5)
	set(t, x, b, 3)
	due(t, x, 2)
	due(t, x, 4, b)
	due(t, x, 4)
	waits(t, x, a, 5)
	due(t, x, 5, a)
	due(t, x, 5)
	set(t, x, a, 0)
	for _, now := range []int{-1, math.MinInt} {
		due(t, x, now)
		waits(t, x, a, 0)
	}
	due(t, x, 0, a)
	set(t, x, a, mostAt)
	set(t, x, b, 0)
	due(t, x, math.MaxInt, b, a)
}

// P10.1: 1024 have room; one more has not, but those that are there are set anew.
func TestFull(t *testing.T) {
	x := timer.New()
	for i := range most {
		set(t, x, api.Timer{Peer: i / 3, Kind: i % 3}, 1000+i)
		counts(t, x, i+1, 1000)
	}
	more := api.Timer{Peer: most, Kind: 1}
	for _, at := range []int{0, 5000, mostAt} {
		if e := x.Set(more, at); e != api.ErrFull {
			t.Error(at, e)
		}
		gone(t, x, more)
		counts(t, x, most, 1000)
	}
	if x.Set(more, -1) != api.ErrArg || x.Set(more, mostAt+1) != api.ErrArg || x.Set(api.Timer{}, -1) != api.ErrArg {
		t.Error("what is named first")
	}
	set(t, x, api.Timer{Peer: 7, Kind: 2}, 3)
	waits(t, x, api.Timer{Peer: 7, Kind: 2}, 3)
	counts(t, x, most, 3)
	if !x.Stop(api.Timer{}) {
		t.Error("Stop")
	}
	set(t, x, more, 9000)
	if e := x.Set(api.Timer{}, 1); e != api.ErrFull {
		t.Error(e)
	}
	if l := x.Due(8999); len(l) != most-1 || l[0] != (api.Timer{Peer: 7, Kind: 2}) {
		t.Error(len(l))
	}
	counts(t, x, 1, 9000)
	for i := range most - 1 {
		set(t, x, api.Timer{Peer: -i, Kind: 1}, 0)
	}
	if e := x.Set(api.Timer{Peer: 5}, 1); e != api.ErrFull {
		t.Error(e)
	}
}

// P10.1: nil ones, and such as New did not make, have nothing, and take nothing.
func TestNil(t *testing.T) {
	for _, x := range []*timer.Timers{nil, {}} {
		for _, at := range []int{0, 5, mostAt} {
			if e := x.Set(api.Timer{Peer: 1, Kind: 1}, at); e != api.ErrClosed {
				t.Error(at, e)
			}
		}
		if x.Stop(api.Timer{Peer: 1, Kind: 1}) {
			t.Error("Stop")
		}
		gone(t, x, api.Timer{Peer: 1, Kind: 1})
		due(t, x, 5)
		due(t, x, math.MaxInt)
		counts(t, x, 0, -1)
	}
}

// P10.1 with R3, R4: timers have nothing in common, and what is due is no one's but the caller's.
func TestOthers(t *testing.T) {
	a, b := timer.New(), timer.New()
	set(t, a, api.Timer{Peer: 1}, 5)
	counts(t, b, 0, -1)
	set(t, b, api.Timer{Peer: 1}, 6)
	set(t, b, api.Timer{Peer: 2}, 6)
	set(t, b, api.Timer{Peer: 3}, 7)
	waits(t, a, api.Timer{Peer: 1}, 5)
	l := b.Due(6)
	clear(l)
	_ = append(l, api.Timer{Peer: 9})
	counts(t, b, 1, 7)
	due(t, b, 7, api.Timer{Peer: 3})
	counts(t, a, 1, 5)
}

// next is a number of a fixed sequence.
func next(seed *uint64) int {
	*seed = *seed*6364136223846793005 + 1442695040888963407
	return int(*seed >> 40)
}

// waited is a timer of the list that timers are held against.
type waited struct {
	k  api.Timer
	at int
}

func before(a, b waited) bool {
	if a.at != b.at {
		return a.at < b.at
	}
	if a.k.Peer != b.k.Peer {
		return a.k.Peer < b.k.Peer
	}
	return a.k.Kind < b.k.Kind
}

// put puts w into a list that stands in order.
func put(l []waited, w waited) []waited {
	i := 0
	for i < len(l) && before(l[i], w) {
		i++
	}
	return slices.Insert(l, i, w)
}

func without(l []waited, k api.Timer) ([]waited, bool) {
	i := slices.IndexFunc(l, func(w waited) bool { return w.k == k })
	if i < 0 {
		return l, false
	}
	return slices.Delete(l, i, i+1), true
}

// runTimers holds timers against a list in order. What is done is told by a number below 8, with a key, and seconds from now on.
func runTimers(t *testing.T, steps int, what func(i int) (int, api.Timer, int)) {
	t.Helper()
	x, now := timer.New(), 0
	var l []waited
	for i := range steps {
		do, k, n := what(i)
		switch {
		case do < 4:
			set(t, x, k, now+n)
			l, _ = without(l, k)
			l = put(l, waited{k, now + n})
		case do < 6:
			rest, is := without(l, k)
			if l = rest; x.Stop(k) != is {
				t.Fatal(i, k, is)
			}
		default:
			now += n
			var want []api.Timer
			for len(l) > 0 && l[0].at <= now {
				want = append(want, l[0].k)
				l = l[1:]
			}
			due(t, x, now, want...)
		}
		if len(l) == 0 {
			counts(t, x, 0, -1)
		} else {
			counts(t, x, len(l), l[0].at)
		}
		for _, w := range l {
			waits(t, x, w.k, w.at)
		}
	}
}

// P10.2: whatever is set, set anew and stopped, each that is left is due once, and not ahead of its moment.
func TestOnce(t *testing.T) {
	seed := uint64(3)
	for _, peers := range []int{1, 3, 16} {
		for _, far := range []int{1, 4, 100} {
			runTimers(t, 2000, func(int) (int, api.Timer, int) {
				return next(&seed) % 8, api.Timer{Peer: next(&seed) % peers, Kind: 1 + next(&seed)%3}, next(&seed) % far
			})
		}
	}
}

// R1, P10.2: any steps at all.
func FuzzTimers(f *testing.F) {
	f.Add([]byte{0, 1, 5, 0, 2, 3, 6, 0, 4})
	f.Add([]byte{0, 1, 5, 0, 1, 9, 4, 1, 0, 7, 0, 200})
	f.Fuzz(func(t *testing.T, b []byte) {
		if len(b) > 600 {
			return
		}
		runTimers(t, len(b)/3, func(i int) (int, api.Timer, int) {
			s := b[3*i:]
			return int(s[0]) % 8, api.Timer{Peer: int(s[1]) / 4, Kind: int(s[1]) % 4}, int(s[2])
		})
	})
}

// R1: any moments, and any keys.
func FuzzAny(f *testing.F) {
	f.Add(1, 1, 5, 4)
	f.Add(math.MinInt, 0, -1, math.MaxInt)
	f.Add(0, 0, mostAt, mostAt)
	f.Fuzz(func(t *testing.T, peer, kind, at, now int) {
		x, k := timer.New(), api.Timer{Peer: peer, Kind: kind}
		if e := x.Set(k, at); e != api.OK {
			if e != api.ErrArg || at >= 0 && at <= mostAt || x.Len() != 0 {
				t.Error(at, e, x.Len())
			}
			return
		}
		counts(t, x, 1, at)
		if at <= now {
			due(t, x, now, k)
		} else {
			due(t, x, now)
			waits(t, x, k, at)
		}
	})
}
