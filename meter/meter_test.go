package meter_test

import (
	"math"
	"slices"
	"testing"

	"bypath/addr"
	"bypath/api"
	"bypath/meter"
	"bypath/num"
)

// prefix is the prefix of a text.
func prefix(s string) api.Prefix {
	p, e := addr.Parse(s)
	if e != api.OK {
		panic(s)
	}
	return p
}

// count is n of a prefix's text.
func count(s string, n int) api.Count { return api.Count{P: prefix(s), N: n} }

func report(source, seq int, l ...api.Count) api.Report {
	return api.Report{Source: source, Seq: seq, Counts: l}
}

// takes lets m take a report that may be.
func takes(t *testing.T, m *meter.Meter, now int, r api.Report) {
	t.Helper()
	if e := meter.Check(r); e != api.OK {
		t.Fatal(r, e)
	}
	if e := m.Take(r, now); e != api.OK {
		t.Fatal(r, now, e)
	}
}

// goes asks for all demands, each one by itself too.
func goes(t *testing.T, m *meter.Meter, l ...api.Count) {
	t.Helper()
	if d := m.Demands(); !slices.Equal(d, l) {
		t.Error(d, "but not", l)
	}
	for _, x := range l {
		if n := m.Demand(x.P); n != x.N {
			t.Error(x, n)
		}
	}
}

// stamped asks for a source's moment (below 0: none).
func stamped(t *testing.T, m *meter.Meter, source, at int) {
	t.Helper()
	if n, is := m.Stamp(source); is != (at >= 0) || n != max(at, 0) {
		t.Error(source, n, is, at)
	}
}

// empty asks for all that a Meter without reports answers.
func empty(t *testing.T, m *meter.Meter) {
	t.Helper()
	for _, p := range []api.Prefix{{}, {Addr: 0x0a000000, Len: 8}, {Addr: 1, Len: 32}, {Addr: 1, Len: 8}, {Len: -1}, {Len: 33}} {
		if n := m.Demand(p); n != 0 {
			t.Error(p, n)
		}
	}
	for _, n := range []int{math.MinInt, -1, 0, 1, 15, 16, math.MaxInt} {
		stamped(t, m, n, -1)
	}
	if len(m.Demands()) != 0 || m.Over() {
		t.Error(m.Demands(), m.Over())
	}
}

// P17.1: the document's example; what is behind the point does not count.
func TestRate(t *testing.T) {
	for _, x := range []struct {
		before, at, n, now int
		rate               int
	}{
		{100, 5, 160, 8, 20}, {100, 5, 162, 8, 20}, {100, 5, 163, 8, 21}, {100, 5, 102, 8, 0}, {100, 5, 103, 8, 1},
		{100, 5, 100, 8, 0}, {100, 5, 99, 8, 0}, {100, 5, 0, 8, 0}, {0, 5, 1, 6, 1}, {0, 0, 7, 1, 7},
		{100, 5, 160, 5, 0}, {100, 5, 160, 4, 0}, {100, 5, 160, 0, 0}, {100, 5, 160, 6, 60},
		{0, 0, api.MaxSum, 1, api.MaxSum}, {0, 0, api.MaxSum, api.MaxSum, 1}, {0, 0, api.MaxSum - 1, api.MaxSum, 0},
		{0, 0, api.MaxSum, 2, api.MaxSum / 2}, {1, api.MaxSum - 1, api.MaxSum, api.MaxSum, api.MaxSum - 1},
	} {
		m := meter.New()
		takes(t, m, x.at, report(3, 0, count("10.0.0.0/8", x.before)))
		goes(t, m)
		takes(t, m, x.now, report(3, 1, count("10.0.0.0/8", x.n)))
		if n := m.Demand(prefix("10.0.0.0/8")); n != x.rate {
			t.Error(x, n)
		}
		if (len(m.Demands()) == 1) != (x.rate > 0) {
			t.Error(x, m.Demands())
		}
	}
}

// P17.1: only the last report and the one ahead of it count, whatever stood in others.
func TestLast(t *testing.T) {
	m := meter.New()
	takes(t, m, 10, report(0, 1, count("10.0.0.0/8", 100), count("11.0.0.0/8", 0)))
	takes(t, m, 20, report(0, 2, count("11.0.0.0/8", 50), count("12.0.0.0/8", 900)))
	goes(t, m, count("11.0.0.0/8", 5))
	takes(t, m, 30, report(0, 3, count("10.0.0.0/8", 300), count("12.0.0.0/8", 920)))
	goes(t, m, count("12.0.0.0/8", 2))
	takes(t, m, 40, report(0, 4, count("10.0.0.0/8", 400), count("12.0.0.0/8", 910)))
	goes(t, m, count("10.0.0.0/8", 10))
	// A count that fell is what the next one is held against; so is a moment that went back.
	takes(t, m, 35, report(0, 5, count("10.0.0.0/8", 500), count("12.0.0.0/8", 920)))
	goes(t, m)
	stamped(t, m, 0, 35)
	takes(t, m, 40, report(0, 6, count("10.0.0.0/8", 505), count("12.0.0.0/8", 935)))
	goes(t, m, count("10.0.0.0/8", 1), count("12.0.0.0/8", 3))
	takes(t, m, 50, report(0, 7))
	goes(t, m)
	takes(t, m, 60, report(0, 8, count("10.0.0.0/8", 900)))
	goes(t, m)
	takes(t, m, 70, report(0, 9, count("10.0.0.0/8", 1000)))
	goes(t, m, count("10.0.0.0/8", 10))
}

// P17.1: a prefix is no other one that holds it, or has its address.
func TestPrefixes(t *testing.T) {
	m := meter.New()
	takes(t, m, 0, report(0, 1, count("10.0.0.0/8", 0), count("10.0.0.0/16", 0), count("0.0.0.0/0", 0)))
	takes(t, m, 1, report(0, 2, count("10.0.0.0/8", 1), count("10.0.0.0/16", 2), count("10.0.0.0/24", 9), count("0.0.0.0/0", 3)))
	goes(t, m, count("0.0.0.0/0", 3), count("10.0.0.0/8", 1), count("10.0.0.0/16", 2))
	for _, p := range []api.Prefix{prefix("10.0.0.0/24"), prefix("10.0.0.0/9"), prefix("10.1.0.0/16"), {Addr: 0x0a000001, Len: 8}, {Addr: 0x0a000000, Len: 33}, {Len: -1}} {
		if n := m.Demand(p); n != 0 {
			t.Error(p, n)
		}
	}
}

// P17.1: all sources' rates are added up, each from its own reports; demands are in the order of prefixes.
func TestSources(t *testing.T) {
	m := meter.New()
	takes(t, m, 10, report(0, 7, count("11.0.0.0/8", 0), count("10.128.0.0/9", 0)))
	takes(t, m, 11, report(15, 3, count("11.0.0.0/8", 5), count("10.0.0.0/8", 1)))
	goes(t, m)
	takes(t, m, 12, report(0, 8, count("11.0.0.0/8", 20), count("10.128.0.0/9", 14)))
	goes(t, m, count("10.128.0.0/9", 7), count("11.0.0.0/8", 10))
	takes(t, m, 21, report(15, 4, count("11.0.0.0/8", 35), count("10.0.0.0/8", 41)))
	goes(t, m, count("10.0.0.0/8", 4), count("10.128.0.0/9", 7), count("11.0.0.0/8", 13))
	takes(t, m, 22, report(7, 4, count("11.0.0.0/8", 0), count("10.0.0.0/8", 50)))
	goes(t, m, count("10.0.0.0/8", 4), count("10.128.0.0/9", 7), count("11.0.0.0/8", 13))
	stamped(t, m, 0, 12)
	stamped(t, m, 7, 22)
	stamped(t, m, 15, 21)
	takes(t, m, 23, report(0, 9))
	goes(t, m, count("10.0.0.0/8", 4), count("11.0.0.0/8", 3))
	for _, n := range []int{math.MinInt, -1, 1, 6, 8, 14, 16, math.MaxInt} {
		stamped(t, m, n, -1)
	}
}

// P17.1: moments from 0 to MaxSum, numbers likewise; a report is taken by its number alone.
func TestOld(t *testing.T) {
	m := meter.New()
	takes(t, m, 9, report(2, 0, count("10.0.0.0/8", 1)))
	for _, x := range []struct {
		seq, now int
		e        api.Errno
	}{
		{0, 10, api.ErrOld}, {1, 10, api.OK}, {1, 11, api.ErrOld}, {0, 11, api.ErrOld}, {5, 8, api.OK}, {4, 9, api.ErrOld}, {5, 9, api.ErrOld},
		{api.MaxSum, api.MaxSum, api.OK}, {api.MaxSum, 5, api.ErrOld}, {0, 5, api.ErrOld}, {api.MaxSum + 1, 5, api.ErrArg}, {6, -1, api.ErrArg},
	} {
		at, _ := m.Stamp(2)
		if e := m.Take(report(2, x.seq, count("10.0.0.0/8", 7)), x.now); e != x.e {
			t.Error(x, e)
		}
		if x.e == api.OK {
			at = x.now
		}
		stamped(t, m, 2, at)
	}
	takes(t, m, 0, report(3, 0))
	stamped(t, m, 3, 0)
}

// P17.1: a demand is capped, and Over tells of one, and of all together.
func TestOver(t *testing.T) {
	half := api.MaxSum / 2
	for _, x := range []struct {
		a, b, c int
		over    bool
	}{
		{api.MaxSum, 0, 0, true}, {0, 0, api.MaxSum, true}, {api.MaxSum - 1, 0, 0, false}, {half, half, 0, false}, {half, half + 1, 0, true},
		{half, 0, half + 1, true}, {half, 0, half, false}, {half, half, 1, true}, {api.MaxSum, api.MaxSum, api.MaxSum, true}, {0, 0, 0, false},
		{api.MaxSum - 2, 1, 0, false}, {api.MaxSum - 2, 1, 1, true},
	} {
		m := meter.New()
		takes(t, m, 0, report(0, 0, count("10.0.0.0/8", 0), count("10.0.0.0/9", 0)))
		takes(t, m, 0, report(1, 0, count("10.0.0.0/8", 0), count("10.0.0.0/9", 0)))
		takes(t, m, 1, report(0, 1, count("10.0.0.0/8", x.a), count("10.0.0.0/9", x.c)))
		takes(t, m, 1, report(1, 1, count("10.0.0.0/8", x.b)))
		if m.Over() != x.over || m.Demand(prefix("10.0.0.0/8")) != min(x.a+x.b, api.MaxSum) || m.Demand(prefix("10.0.0.0/9")) != x.c {
			t.Error(x, m.Over(), m.Demands())
		}
	}
}

// many are n counts of unlike prefixes, of the block that belongs to a source.
func many(source, n, each int) []api.Count {
	var l []api.Count
	for i := range n {
		l = append(l, api.Count{P: addr.Make(uint32(source<<24|i<<8), 24), N: each * i})
	}
	return l
}

// P17.1: what reports may be.
func TestCheck(t *testing.T) {
	ten := prefix("10.0.0.0/8")
	for _, x := range []struct {
		r api.Report
		e api.Errno
	}{
		{api.Report{}, api.OK}, {report(15, api.MaxSum), api.OK}, {report(-1, 0), api.ErrArg}, {report(16, 0), api.ErrArg},
		{report(math.MinInt, 0), api.ErrArg}, {report(math.MaxInt, 0), api.ErrArg},
		{report(0, -1), api.ErrArg}, {report(0, api.MaxSum+1), api.ErrArg}, {report(0, math.MinInt), api.ErrArg}, {report(0, math.MaxInt), api.ErrArg},
		{report(0, 0, api.Count{P: ten}, api.Count{}), api.OK}, {report(0, 0, api.Count{P: ten, N: api.MaxSum}), api.OK},
		{report(0, 0, api.Count{P: ten, N: api.MaxSum + 1}), api.ErrArg}, {report(0, 0, api.Count{P: ten, N: -1}), api.ErrArg},
		{report(0, 0, api.Count{P: ten}, api.Count{P: ten, N: -1}), api.ErrArg}, {report(0, 0, api.Count{P: ten, N: math.MaxInt}), api.ErrArg},
		{report(0, 0, api.Count{P: ten}, api.Count{P: ten}), api.ErrArg}, {report(0, 0, api.Count{P: ten, N: 1}, api.Count{}, api.Count{P: ten, N: 2}), api.ErrArg},
		{report(0, 0, count("10.0.0.0/8", 1), count("10.0.0.0/9", 1), count("10.128.0.0/9", 1), count("0.0.0.0/8", 1)), api.OK},
		{report(0, 0, api.Count{P: api.Prefix{Addr: 1, Len: 31}}), api.ErrArg}, {report(0, 0, api.Count{P: api.Prefix{Len: 33}}), api.ErrArg},
		{report(0, 0, api.Count{P: ten}, api.Count{P: api.Prefix{Len: -1}}), api.ErrArg},
		{report(0, 0, many(0, api.MaxCounts, 1)...), api.OK}, {report(0, 0, many(0, api.MaxCounts+1, 1)...), api.ErrArg},
	} {
		if e := meter.Check(x.r); e != x.e {
			t.Error(x.r.Source, x.r.Seq, len(x.r.Counts), e)
		}
		if e := meter.New().Take(x.r, 0); e != x.e {
			t.Error(x.r.Source, x.r.Seq, len(x.r.Counts), e)
		}
	}
}

// P17.1, P17.2: ErrArg is ahead of ErrOld; what is not taken changes nothing.
func TestRefused(t *testing.T) {
	m := meter.New()
	takes(t, m, 10, report(1, 5, count("10.0.0.0/8", 0)))
	takes(t, m, 20, report(1, 6, count("10.0.0.0/8", 70)))
	for _, x := range []struct {
		r   api.Report
		now int
		e   api.Errno
	}{
		{report(1, 6, count("10.0.0.0/8", 900)), 30, api.ErrOld}, {report(1, 0), 30, api.ErrOld}, {report(1, 5, count("11.0.0.0/8", 1)), 30, api.ErrOld},
		{report(1, 7), -1, api.ErrArg}, {report(1, 7), api.MaxSum + 1, api.ErrArg}, {report(1, 7), math.MinInt, api.ErrArg}, {report(1, 7), math.MaxInt, api.ErrArg},
		{report(1, 6), -1, api.ErrArg}, {report(1, 6, count("10.0.0.0/8", -1)), 30, api.ErrArg}, {report(1, -1), 30, api.ErrArg},
		{report(16, 7), 30, api.ErrArg}, {report(-1, 7), 30, api.ErrArg}, {report(2, 7, count("10.0.0.0/8", 1), count("10.0.0.0/8", 1)), 30, api.ErrArg},
		{report(1, 7, count("10.0.0.0/8", 80), count("11.0.0.0/8", -1)), 30, api.ErrArg}, {report(2, 0), -1, api.ErrArg},
	} {
		if e := m.Take(x.r, x.now); e != x.e {
			t.Error(x, e)
		}
		goes(t, m, count("10.0.0.0/8", 7))
		stamped(t, m, 1, 20)
		stamped(t, m, 2, -1)
		if m.Over() {
			t.Error(x)
		}
	}
	// None of them is what the next one is held against.
	takes(t, m, 30, report(1, 7, count("10.0.0.0/8", 100), count("11.0.0.0/8", 100)))
	goes(t, m, count("10.0.0.0/8", 3))
}

// P17.1: there is room for as many counts as all sources' reports can have, again and again.
func TestFull(t *testing.T) {
	m := meter.New()
	for seq := range 3 {
		for source := range api.MaxSources {
			takes(t, m, seq, report(source, seq, many(source, api.MaxCounts, seq)...))
		}
	}
	l := m.Demands()
	if len(l) != api.MaxDemands-api.MaxSources || !slices.IsSortedFunc(l, func(x, y api.Count) int { return addr.Compare(x.P, y.P) }) {
		t.Error(len(l))
	}
	for _, x := range l {
		if n := int(x.P.Addr >> 8 & 0xffff); x.N != n || m.Demand(x.P) != n {
			t.Fatal(x)
		}
	}
	for source := range api.MaxSources {
		stamped(t, m, source, 2)
	}
}

// P17.1: of a nil Meter, and alike of one that New did not make.
func TestNil(t *testing.T) {
	for _, m := range []*meter.Meter{nil, new(meter.Meter)} {
		for _, r := range []api.Report{{}, report(0, 1, count("10.0.0.0/8", 1)), report(-1, -1), report(16, 0)} {
			for _, now := range []int{-1, 0, 1} {
				if e := m.Take(r, now); e != api.ErrClosed {
					t.Error(r, now, e)
				}
			}
		}
		empty(t, m)
	}
	empty(t, meter.New())
	if meter.New() == nil {
		t.Error("New made nothing")
	}
}

// R3: a Meter keeps no list that was handed in, changes none, and shares none that it gave out.
func TestShares(t *testing.T) {
	m := meter.New()
	l := []api.Count{count("10.0.0.0/8", 0), count("11.0.0.0/8", 0), count("12.0.0.0/8", 5)}
	takes(t, m, 0, report(0, 0, l[:2]...))
	if l[2] != count("12.0.0.0/8", 5) {
		t.Error(l)
	}
	l[0], l[1] = count("13.0.0.0/8", 9), count("11.0.0.0/8", 9)
	takes(t, m, 1, report(0, 1, count("11.0.0.0/8", 4), count("10.0.0.0/8", 3), count("13.0.0.0/8", 20)))
	goes(t, m, count("10.0.0.0/8", 3), count("11.0.0.0/8", 4))
	d := m.Demands()
	d[0].N, d[1] = 99, count("1.0.0.0/8", 1)
	_ = append(d[:1], count("2.0.0.0/8", 1))
	goes(t, m, count("10.0.0.0/8", 3), count("11.0.0.0/8", 4))
}

// next is a number that hangs on the seed alone.
func next(seed *uint64) int {
	*seed = *seed*6364136223846793005 + 1442695040888963407
	return int(*seed >> 33)
}

// told is a report that was taken, and when.
type told struct {
	r   api.Report
	now int
}

// model keeps all reports that were taken, by sources, and works out of them what the chapter's words say.
type model [api.MaxSources][]told

func (o *model) take(r api.Report, now int) api.Errno {
	if r.Source < 0 || r.Source >= api.MaxSources || r.Seq < 0 || now < 0 {
		return api.ErrArg
	}
	for i, c := range r.Counts {
		for _, d := range r.Counts[:i] {
			if c.P == d.P {
				return api.ErrArg
			}
		}
		if c.N < 0 || addr.Check(c.P) != api.OK {
			return api.ErrArg
		}
	}
	l := o[r.Source]
	if len(l) > 0 && l[len(l)-1].r.Seq >= r.Seq {
		return api.ErrOld
	}
	o[r.Source] = append(l, told{r, now})
	return api.OK
}

func (x told) count(p api.Prefix) (int, bool) {
	for _, c := range x.r.Counts {
		if c.P == p {
			return c.N, true
		}
	}
	return 0, false
}

func (o *model) demand(p api.Prefix) int {
	all := 0
	for _, l := range o {
		if len(l) < 2 {
			continue
		}
		y, x := l[len(l)-2], l[len(l)-1]
		before, was := y.count(p)
		n, is := x.count(p)
		if was && is && x.now > y.now && n >= before {
			all = num.Add(all, (n-before)/(x.now-y.now))
		}
	}
	return all
}

// few are prefixes, in order.
func few() []api.Prefix {
	return []api.Prefix{
		prefix("0.0.0.0/0"), prefix("0.0.0.0/1"), prefix("10.0.0.0/8"), prefix("10.0.0.0/9"), prefix("10.1.0.0/16"), prefix("128.0.0.0/1"), prefix("255.255.255.255/32"),
	}
}

// anyReport is one that may mostly be.
func anyReport(seed *uint64, seq int) api.Report {
	r := report(next(seed)%3, seq)
	if next(seed)%20 == 0 {
		r.Source = []int{-1, 15, 16}[next(seed)%3]
	}
	for _, p := range few() {
		if next(seed)%3 > 0 {
			r.Counts = append(r.Counts, api.Count{P: p, N: seq*(next(seed)%50) + next(seed)%10})
		}
	}
	if next(seed)%10 == 0 {
		r.Counts = append(r.Counts, api.Count{P: few()[next(seed)%len(few())], N: 7})
	}
	if next(seed)%20 == 0 {
		r.Counts = append(r.Counts, api.Count{P: api.Prefix{Addr: 3, Len: 31}})
	}
	if next(seed)%4 == 0 {
		slices.Reverse(r.Counts)
	}
	return r
}

// held asks m for all that the model knows.
func held(t *testing.T, m *meter.Meter, o *model) {
	t.Helper()
	var l []api.Count
	all := 0
	for _, p := range few() {
		n := o.demand(p)
		if d := m.Demand(p); d != n {
			t.Fatal(p, d, n)
		}
		if n > 0 {
			l = append(l, api.Count{P: p, N: n})
		}
		all = num.Add(all, n)
	}
	goes(t, m, l...)
	if m.Over() != (all == api.MaxSum) {
		t.Fatal(all, m.Over())
	}
	for source, l := range o {
		at := -1
		if len(l) > 0 {
			at = l[len(l)-1].now
		}
		stamped(t, m, source, at)
	}
}

// P17.1, P17.2: any reports, held against the model behind each one.
func TestModel(t *testing.T) {
	seed := uint64(17)
	for range 40 {
		m, o, now := meter.New(), &model{}, 0
		for seq := range 100 {
			r := anyReport(&seed, seq-next(&seed)%2*(next(&seed)%8))
			now += next(&seed)%7 - 1
			if e, f := m.Take(r, now), o.take(r, now); e != f {
				t.Fatal(r, now, e, f)
			}
			held(t, m, o)
		}
	}
}

// P17.2: demands rise with counts of the last report.
func TestRise(t *testing.T) {
	seed := uint64(5)
	for range 500 {
		var low, high []api.Count
		for _, p := range few() {
			n := next(&seed) % 100
			low, high = append(low, api.Count{P: p, N: n}), append(high, api.Count{P: p, N: n + next(&seed)%40})
		}
		m, over := meter.New(), meter.New()
		first := anyReport(&seed, 1)
		if meter.Check(first) != api.OK || first.Source != 0 {
			continue
		}
		takes(t, m, 3, first)
		takes(t, over, 3, first)
		takes(t, m, 7, report(0, 2, low...))
		takes(t, over, 7, report(0, 2, high...))
		for _, p := range few() {
			if m.Demand(p) > over.Demand(p) {
				t.Fatal(p, m.Demand(p), over.Demand(p))
			}
		}
	}
}

// R1: whatever is reported, no call panics, and what is answered fits together.
func FuzzTake(f *testing.F) {
	f.Add([]byte("abcdefghijklmnopqrstuvwxyz"), 1, 2, 3)
	f.Add([]byte{0, 0, 0, 0, 0, 0, 0, 0}, 16, -1, math.MaxInt)
	f.Fuzz(func(t *testing.T, data []byte, source, seq, now int) {
		m := meter.New()
		for i := 0; len(data) >= 4; i++ {
			n := min(int(data[0]%8)*3, len(data)-1) / 3
			r := report(source+i%3, seq+i)
			for j := range n {
				b := data[1+3*j:]
				r.Counts = append(r.Counts, api.Count{P: addr.Make(uint32(b[0])<<24, int(b[1]%10)), N: int(b[2]) << (b[1] % 60)})
			}
			data = data[1+3*n:]
			at, was := m.Stamp(r.Source)
			e := m.Take(r, now+i)
			if (meter.Check(r) == api.OK && num.Near(now+i) == now+i) != (e == api.OK || e == api.ErrOld) {
				t.Fatal(r, now+i, e)
			}
			if e == api.OK {
				at, was = now+i, true
			}
			if n, is := m.Stamp(r.Source); n != at || is != was {
				t.Fatal(r, n, is)
			}
		}
		all := 0
		for _, x := range m.Demands() {
			if x.N <= 0 || x.N > api.MaxSum || m.Demand(x.P) != x.N {
				t.Fatal(x)
			}
			all = num.Add(all, x.N)
		}
		if m.Over() != (all == api.MaxSum) {
			t.Fatal(all)
		}
	})
}
