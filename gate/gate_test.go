package gate_test

import (
	"math"
	"slices"
	"testing"

	"bypath/api"
	"bypath/conf"
	"bypath/gate"
)

// now is the moment in these tests, stale how long ago an input may be.
const (
	now   = 100
	stale = 10
)

// settings are those of so many routers and sources.
func settings(routers, counts, carries int) api.Conf {
	c := conf.First()
	c.Routers, c.Counts, c.Carries, c.Stale = routers, counts, carries, stale
	return c
}

// heard are sources that were heard at moments.
func heard(at ...int) []api.Stamp {
	var l []api.Stamp
	for _, n := range at {
		l = append(l, api.Stamp{At: n, Is: true})
	}
	return l
}

func isFresh(t *testing.T, c api.Conf, i api.Inputs, at int, want bool) {
	t.Helper()
	if gate.Fresh(c, i, at) != want {
		t.Errorf("%+v at %d: not %v", i, at, want)
	}
}

// P25.1: no route was refused.
func TestRefused(t *testing.T) {
	c := settings(1, 0, 0)
	for _, n := range []int{0, 1, 2, math.MaxInt} {
		isFresh(t, c, api.Inputs{Up: []bool{true}, Refused: n}, now, n == 0)
	}
}

// P25.1: the first sessions are established, whatever others are.
func TestUp(t *testing.T) {
	for _, x := range []struct {
		routers int
		up      []bool
		want    bool
	}{
		{1, nil, false}, {1, []bool{false}, false}, {1, []bool{true}, true}, {1, []bool{true, false}, true}, {1, []bool{false, true}, false},
		{2, []bool{true}, false}, {2, []bool{true, true}, true}, {2, []bool{true, false}, false}, {2, []bool{false, true}, false},
		{3, []bool{true, true, true, false}, true}, {3, []bool{true, false, true}, false}, {3, []bool{true, true}, false},
		{0, nil, true}, {-1, []bool{false}, true}, {math.MinInt, nil, true}, {math.MaxInt, []bool{true, true}, false},
	} {
		isFresh(t, settings(x.routers, 0, 0), api.Inputs{Up: x.up}, now, x.want)
	}
}

// stamped asks of sources of counts, and of those of what interfaces carry.
func stamped(t *testing.T, n int, l []api.Stamp, at, stale int, want bool) {
	t.Helper()
	old := []api.Stamp{{}, {At: -1, Is: true}}
	c := settings(0, n, 0)
	c.Stale = stale
	isFresh(t, c, api.Inputs{Counts: l, Carries: old}, at, want)
	c = settings(0, 0, n)
	c.Stale = stale
	isFresh(t, c, api.Inputs{Carries: l, Counts: old}, at, want)
}

// P25.1: each of the first sources was heard; those behind them count for nothing.
func TestSources(t *testing.T) {
	for _, x := range []struct {
		n    int
		l    []api.Stamp
		want bool
	}{
		{0, nil, true}, {0, heard(0), true}, {-1, heard(0), true}, {math.MinInt, nil, true},
		{1, nil, false}, {1, heard(95), true}, {1, []api.Stamp{{At: 95}}, false}, {1, heard(95, 0), true}, {1, heard(0, 95), false},
		{2, heard(95), false}, {2, heard(95, 96), true}, {2, heard(89, 96), false}, {2, heard(96, 89), false}, {2, append(heard(96), api.Stamp{At: 96}), false},
		{3, heard(90, 100, 95, 3), true}, {16, heard(slices.Repeat([]int{99}, 16)...), true}, {16, heard(slices.Repeat([]int{99}, 15)...), false},
		{math.MaxInt, heard(99, 99), false},
	} {
		stamped(t, x.n, x.l, now, stale, x.want)
	}
}

// P25.1: at a moment from 0 on, not behind the moment, and not more than Stale ahead.
func TestMoments(t *testing.T) {
	for _, x := range []struct {
		at, now, stale int
		want           bool
	}{
		{90, 100, 10, true}, {89, 100, 10, false}, {100, 100, 10, true}, {101, 100, 10, false}, {100, 100, 1, true}, {99, 100, 1, true}, {98, 100, 1, false},
		{0, 0, 1, true}, {0, 1, 1, true}, {0, 2, 1, false}, {-1, 0, 10, false}, {-1, 5, 10, false}, {-5, -5, 10, false}, {0, -1, 10, false},
		{0, api.MaxTicks, api.MaxTicks, true}, {0, api.MaxTicks + 1, api.MaxTicks, false},
		{api.MaxSum, api.MaxSum, 1, true}, {api.MaxSum - 1, api.MaxSum, 1, true}, {api.MaxSum - 2, api.MaxSum, 1, false},
		{100, 100, 0, true}, {99, 100, 0, false}, {100, 100, -1, false}, {100, 100, math.MinInt, false}, {0, math.MaxInt, math.MaxInt, true},
		{math.MinInt, math.MaxInt, math.MaxInt, false}, {math.MaxInt, math.MinInt, math.MaxInt, false}, {math.MinInt, math.MinInt, 1, false}, {1, math.MaxInt, math.MaxInt, true},
	} {
		stamped(t, 1, heard(x.at), x.now, x.stale, x.want)
		stamped(t, 1, []api.Stamp{{At: x.at}}, x.now, x.stale, false)
	}
}

// P25.1: one thing that is not fresh among many makes all not fresh. R3: nothing that is handed in is changed.
func TestEach(t *testing.T) {
	c := settings(16, 16, 16)
	made := func() api.Inputs {
		return api.Inputs{
			Up:      slices.Repeat([]bool{true}, 16),
			Counts:  heard(slices.Repeat([]int{90}, 16)...),
			Carries: heard(slices.Repeat([]int{100}, 16)...),
		}
	}
	i := made()
	isFresh(t, c, i, now, true)
	if j := made(); !slices.Equal(i.Up, j.Up) || !slices.Equal(i.Counts, j.Counts) || !slices.Equal(i.Carries, j.Carries) {
		t.Error(i)
	}
	for k := range 16 {
		for _, spoil := range []func(i *api.Inputs){
			func(i *api.Inputs) { i.Up[k] = false },
			func(i *api.Inputs) { i.Up = i.Up[:k] },
			func(i *api.Inputs) { i.Counts[k].Is = false },
			func(i *api.Inputs) { i.Counts[k].At = 89 },
			func(i *api.Inputs) { i.Counts = i.Counts[:k] },
			func(i *api.Inputs) { i.Carries[k].Is = false },
			func(i *api.Inputs) { i.Carries[k].At = 101 },
			func(i *api.Inputs) { i.Carries = i.Carries[:k] },
		} {
			i := made()
			spoil(&i)
			isFresh(t, c, i, now, false)
		}
	}
}

func made(t *testing.T, warm int) *gate.Gate {
	t.Helper()
	g, e := gate.New(warm)
	if e != api.OK || g == nil {
		t.Fatal(warm, e)
	}
	return g
}

// P25.2: from 1 to 2^20 steps.
func TestNew(t *testing.T) {
	for _, warm := range []int{math.MinInt, -1, 0, 1<<20 + 1, math.MaxInt} {
		if g, e := gate.New(warm); e != api.ErrArg || g != nil {
			t.Error(warm, e)
		}
	}
	for _, warm := range []int{1, 2, 1<<20 - 1, 1 << 20} {
		if g := made(t, warm); g.Open() || g.Count() != 0 {
			t.Error(warm, g.Open(), g.Count())
		}
	}
}

// P25.2: the document's example.
func TestExample(t *testing.T) {
	g := made(t, 2)
	if g.Step(true) || !g.Step(true) {
		t.Error(g.Count())
	}
}

// P25.2, P25.3: any steps.
func TestSteps(t *testing.T) {
	seed := uint64(25)
	for _, warm := range []int{1, 2, 3, 7} {
		g, row := made(t, warm), 0
		for range 2000 {
			seed = seed*6364136223846793005 + 1442695040888963407
			fresh := seed>>33%8 != 0
			row++
			if !fresh {
				row = 0
			}
			if open := g.Step(fresh); open != (row >= warm) || g.Open() != open || g.Count() != min(row, warm) {
				t.Fatal(warm, row, open, g.Open(), g.Count())
			}
		}
	}
}

// P25.2, P25.3: as many steps as there may be.
func TestMost(t *testing.T) {
	g := made(t, api.MaxTicks)
	for i := range api.MaxTicks {
		if g.Open() || g.Count() != i {
			t.Fatal(i)
		}
		if g.Step(true) != (i == api.MaxTicks-1) {
			t.Fatal(i)
		}
	}
	if !g.Step(true) || g.Count() != api.MaxTicks || g.Step(false) || g.Open() || g.Count() != 0 {
		t.Error(g.Count())
	}
}

// P25.2: asking changes nothing.
func TestAsk(t *testing.T) {
	g := made(t, 2)
	for range 5 {
		if g.Open() || g.Count() != 0 {
			t.Error(g.Count())
		}
	}
}

// P25.2: a nil gate, and one that New did not make, never open.
func TestNil(t *testing.T) {
	for _, g := range []*gate.Gate{nil, {}} {
		for _, fresh := range []bool{true, true, false} {
			if g.Step(fresh) || g.Open() || g.Count() != 0 {
				t.Error(g.Count())
			}
		}
	}
}
