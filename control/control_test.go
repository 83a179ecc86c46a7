package control_test

import (
	"bytes"
	"math"
	"reflect"
	"slices"
	"testing"
	"time"

	"bypath/addr"
	"bypath/api"
	"bypath/attr"
	"bypath/conf"
	"bypath/control"
	"bypath/open"
)

// P26.1: what conf refuses; else a controller to which nothing happened.
func TestNew(t *testing.T) {
	for i, spoil := range []func(c *api.Conf){
		func(c *api.Conf) { *c = api.Conf{} },
		func(c *api.Conf) { c.AS = 0 },
		func(c *api.Conf) { c.ID = 0 },
		func(c *api.Conf) { c.Hold = 1 },
		func(c *api.Conf) { c.Retry = 0 },
		func(c *api.Conf) { c.Routers = 0 },
		func(c *api.Conf) { c.Routers = math.MaxInt },
		func(c *api.Conf) { c.Ifaces[0].Router = 1 },
		func(c *api.Conf) { c.Ifaces[0].ID = c.Ifaces[1].ID },
		func(c *api.Conf) { c.Warm = 0 },
		func(c *api.Conf) { c.Cycle = 0 },
		func(c *api.Conf) { c.Routes = api.MaxRoutes + 1 },
		func(c *api.Conf) { c.Queue = api.LeastQueue - 1 },
	} {
		c := settings(1)
		spoil(&c)
		if z, e := control.New(c); z != nil || e != conf.Check(c) || e != api.ErrConf {
			t.Error(i, e)
		}
	}
	for routers := 1; routers <= api.MaxRouters; routers++ {
		r := made(t, settings(routers))
		if s := r.Status(); !sameStatus(s, api.Status{Phases: slices.Repeat([]int{api.PhaseIdle}, routers)}) {
			t.Error(s)
		}
		for router := range routers {
			r.said(router)
			if l := r.out(router); len(l) != 0 {
				t.Error(l)
			}
		}
		if l := r.Demands(); len(l) != 0 {
			t.Error(l)
		}
		if l := r.Routes(prefix(twenty)); len(l) != 0 {
			t.Error(l)
		}
	}
}

// P26.1, P26.2: of a nil controller, and of one that New did not make.
func TestNil(t *testing.T) {
	for _, z := range []*control.Control{nil, {}} {
		for kind := -1; kind <= api.DoCarries+1; kind++ {
			if x := z.Step(api.Do{Kind: kind, N: 5}); !sameDone(x, api.Done{E: api.ErrClosed}) {
				t.Error(kind, x)
			}
		}
		if s := z.Status(); !sameStatus(s, api.Status{}) {
			t.Error(s)
		}
		for _, router := range []int{-1, 0, 1, 16} {
			if l := z.Said(router); len(l) != 0 {
				t.Error(l)
			}
		}
		if l := z.Routes(prefix(twenty)); len(l) != 0 {
			t.Error(l)
		}
		if l := z.Demands(); len(l) != 0 {
			t.Error(l)
		}
	}
}

// P26.1: what may not be told, by a controller that has something that could be another thing.
func TestRefused(t *testing.T) {
	c := settings(2)
	c.Counts, c.Carries, c.Warm = 1, 2, 1
	r := made(t, c)
	r.up(0, theirs(0))
	r.says(0, comes(twenty, 1, path(home, 100)))
	r.do(api.Do{Kind: api.DoCounts, Counts: api.Report{Seq: 5, Counts: []api.Count{rate(twenty, 100)}}})
	r.do(api.Do{Kind: api.DoCarries, Carries: api.Carries{Seq: 5, L: []api.Carry{{Iface: 1, Cap: 70}}}})
	r.totals[prefix(twenty)] = 0

	for _, kind := range []int{math.MinInt, -1, 0, 10, 11, math.MaxInt} {
		r.refuses(api.Do{Kind: kind}, api.ErrArg)
	}
	for kind := api.DoStart; kind <= api.DoOut; kind++ {
		for _, router := range []int{math.MinInt, -1, 2, 3, 15, 16, math.MaxInt} {
			r.refuses(api.Do{Kind: kind, Router: router, N: 10, Data: sent(kept())}, api.ErrArg)
		}
	}
	r.refuses(api.Do{Kind: api.DoBytes, Data: make([]byte, 1<<16+1)}, api.ErrArg)

	for _, source := range []int{math.MinInt, -1, 1, 2, 16, math.MaxInt} {
		r.refuses(api.Do{Kind: api.DoCounts, Counts: api.Report{Source: source, Seq: 9}}, api.ErrArg)
	}
	for _, source := range []int{math.MinInt, -1, 2, 3, 16, math.MaxInt} {
		r.refuses(api.Do{Kind: api.DoCarries, Carries: api.Carries{Source: source, Seq: 9}}, api.ErrArg)
	}
	for _, x := range []struct {
		report api.Report
		e      api.Errno
	}{
		{api.Report{Seq: -1}, api.ErrArg}, {api.Report{Seq: api.MaxSum + 1}, api.ErrArg}, {api.Report{Seq: 5}, api.ErrOld}, {api.Report{Seq: 0}, api.ErrOld},
		{api.Report{Seq: 4, Counts: []api.Count{rate(twenty, -1)}}, api.ErrArg},
		{api.Report{Seq: 6, Counts: []api.Count{rate(twenty, 200), rate(twenty, 200)}}, api.ErrArg},
	} {
		r.refuses(api.Do{Kind: api.DoCounts, Counts: x.report}, x.e)
	}
	for _, x := range []struct {
		said api.Carries
		e    api.Errno
	}{
		{api.Carries{Seq: -1}, api.ErrArg}, {api.Carries{Seq: 5}, api.ErrOld}, {api.Carries{Seq: 9, L: []api.Carry{{Iface: 4}}}, api.ErrNone},
		{api.Carries{Seq: 4, L: []api.Carry{{Iface: 4}}}, api.ErrNone}, {api.Carries{Seq: 4, L: []api.Carry{{Iface: 1}, {Iface: 1}}}, api.ErrArg},
		{api.Carries{Seq: 9, L: []api.Carry{{Iface: 1, Cap: -1}}}, api.ErrArg},
	} {
		r.refuses(api.Do{Kind: api.DoCarries, Carries: x.said}, x.e)
	}
	// Nothing of all that was taken.
	r.do(api.Do{Kind: api.DoCounts, Counts: api.Report{Seq: 6, Counts: []api.Count{rate(twenty, 100)}}})
	r.do(api.Do{Kind: api.DoCarries, Carries: api.Carries{Seq: 6}})
	r.do(api.Do{Kind: api.DoCarries, Carries: api.Carries{Source: 1}})
}

// P26.1: what a kind does not use counts for nothing.
func TestUnused(t *testing.T) {
	c := settings(1)
	c.Carries = 1
	r := made(t, c)
	strange := api.Do{Router: -5, N: -5, Data: make([]byte, 1<<17), Counts: api.Report{Source: -5, Seq: -5}, Carries: api.Carries{Source: -5, Seq: -5}}
	for kind := api.DoStart; kind <= api.DoCarries; kind++ {
		d := strange
		d.Kind = kind
		switch kind {
		case api.DoTick:
		case api.DoCounts:
			d.Counts = api.Report{Seq: 1}
		case api.DoCarries:
			d.Carries = api.Carries{Seq: 1}
		case api.DoBytes:
			d.Router, d.Data = 0, nil
		default:
			d.Router = 0
		}
		r.do(d)
	}
}

// fallen is a router's session that was established, and is so no more.
func fallen(router int, last []byte) api.Heard {
	return api.Heard{Router: router, Close: true, Down: true, Last: last}
}

// P26.1: sessions are begun and ended; the document's example.
func TestSessions(t *testing.T) {
	c := settings(2)
	c.Hold = 90
	r := made(t, c)
	r.heard(r.do(api.Do{Kind: api.DoConnect, Router: 1}))
	r.heard(r.do(api.Do{Kind: api.DoStart, Router: 1}), api.Heard{Router: 1, Connect: true})
	r.heard(r.do(api.Do{Kind: api.DoStart, Router: 1}))
	r.heard(r.do(api.Do{Kind: api.DoConnect, Router: 1}))
	l := r.out(1)
	want, _ := open.Message(conf.Local(c).Open)
	if len(l) != 1 || l[0].Type != api.TypeOpen || !bytes.Equal(l[0].Body, want.Body) {
		t.Fatal(l)
	}
	r.heard(r.says(1, opened(theirs(1))))
	r.heard(r.says(1, kept()), api.Heard{Router: 1, Up: true})
	if s := r.Status(); !slices.Equal(s.Phases, []int{api.PhaseIdle, api.PhaseUp}) {
		t.Error(s)
	}
	r.heard(r.says(1, kept(), comes(twenty, 1, path(home, 1))))
	r.heard(r.do(api.Do{Kind: api.DoStop, Router: 1}), fallen(1, noted(api.NoteCease, 2)))
	if s := r.Status(); s.Routes != 0 || !slices.Equal(s.Phases, []int{api.PhaseIdle, api.PhaseIdle}) {
		t.Error(s)
	}
	r.up(1, theirs(1))
	r.says(1, comes(twenty, 1, path(home, 1)))
	r.heard(r.do(api.Do{Kind: api.DoDrop, Router: 1}), fallen(1, nil))
	if s := r.Status(); s.Routes != 0 || !slices.Equal(s.Phases, []int{api.PhaseIdle, api.PhaseConnect}) {
		t.Error(s)
	}
	r.do(api.Do{Kind: api.DoConnect, Router: 1})
	r.heard(r.says(1, opened(api.Open{AS: 9, ID: 9})), api.Heard{Router: 1, Close: true, Last: noted(api.NoteOpen, 2)})
}

// P26.1: a session may come up, tell routes, and fall by bytes that come in at once; its routes are gone then. P5: with just that note.
func TestAtOnce(t *testing.T) {
	r := made(t, settings(2))
	r.up(1, theirs(1))
	r.says(1, comes(twenty, 4, path(home, 1)))
	r.do(api.Do{Kind: api.DoStart})
	r.do(api.Do{Kind: api.DoConnect})
	data := slices.Concat(sent(opened(theirs(0)), kept(), comes(twenty, 1, path(home, 100)), goes(twenty, 2)), make([]byte, 19))
	x := r.do(api.Do{Kind: api.DoBytes, Data: data})
	r.heard(x, api.Heard{Close: true, Up: true, Down: true, Last: noted(api.NoteHead, 1)})
	if l := r.Routes(prefix(twenty)); len(l) != 1 || l[0].Key != (api.Key{Router: 1, P: prefix(twenty), ID: 4}) {
		t.Error(l)
	}
}

// P26.2: routes are those of all routers, in order; of prefixes that have none, or may not be, there are none.
func TestRoutes(t *testing.T) {
	r := made(t, settings(2))
	r.up(0, theirs(0))
	r.up(1, theirs(1))
	r.says(1, comes(twenty, 1, path(away, 5)), comes(twenty, 0, path(home, 6)))
	r.says(0, comes(twenty, 9, path(home, 7)), comes("20.0.0.0/9", 1, path(home, 8)), goes(twenty, 1))
	r.says(0, comes(twenty, 9, path(home, 70)))
	var got []int
	for _, x := range r.Routes(prefix(twenty)) {
		got = append(got, x.Key.Router, x.Key.ID, x.A.Pref)
	}
	if !slices.Equal(got, []int{0, 9, 70, 1, 0, 6, 1, 1, 5}) || r.Status().Routes != 4 {
		t.Error(got, r.Status())
	}
	for _, p := range []api.Prefix{prefix("20.0.0.0/10"), prefix("0.0.0.0/0"), {Addr: 1, Len: 8}, {Len: -1}, {Len: 33}} {
		if l := r.Routes(p); len(l) != 0 {
			t.Error(p, l)
		}
	}
	// A route that came by us is not there, and a soft update lets routes go.
	mine := path(home, 9)
	mine.Path[0].AS = append(mine.Path[0].AS, 65000)
	r.says(0, comes(twenty, 9, mine))
	soft := comes(twenty, 1, path(home, 9))
	soft.Body[2+2+3] = 9 // the origin
	r.heard(r.says(1, soft))
	if l := r.Routes(prefix(twenty)); len(l) != 1 || l[0].Key.Router != 1 || l[0].Key.ID != 0 {
		t.Error(l)
	}
}

// P26.1: as many bytes go out as are told, in order, and nothing else happens.
func TestOut(t *testing.T) {
	r := made(t, settings(2))
	r.do(api.Do{Kind: api.DoStart, Router: 1})
	r.do(api.Do{Kind: api.DoConnect, Router: 1})
	m, _ := open.Message(conf.Local(settings(2)).Open)
	left := sent(m)
	before := r.Status()
	for _, n := range []int{0, -1, math.MinInt, 1, 5, 0, 2, math.MaxInt, 1, math.MaxInt} {
		k := min(max(n, 0), len(left))
		if x := r.do(api.Do{Kind: api.DoOut, Router: 1, N: n}); !sameDone(x, api.Done{Out: left[:k]}) {
			t.Error(n, x, left)
		}
		left = left[k:]
		if x := r.do(api.Do{Kind: api.DoOut, N: n}); !sameDone(x, api.Done{}) {
			t.Error(n, x)
		}
	}
	if now := r.Status(); !sameStatus(now, before) || len(left) != 0 {
		t.Error(now, before)
	}
}

// P26.1: just as many bytes as may come in at once.
func TestMostBytes(t *testing.T) {
	r := made(t, settings(1))
	r.up(0, theirs(0))
	var data []byte
	for i := 0; len(data) <= 1<<16-60; i++ {
		m := updated(api.Update{Routes: []api.Nlri{{ID: i, P: prefix(twenty)}}, A: path(home, 1)})
		data = append(data, sent(m)...)
	}
	n := len(data)
	whole := append(data, sent(kept(), kept(), kept(), kept())...)[:1<<16]
	r.heard(r.do(api.Do{Kind: api.DoBytes, Data: whole}))
	each := len(sent(comes(twenty, 1, path(home, 1))))
	if s := r.Status(); s.Routes != n/each {
		t.Error(s.Routes, n, each)
	}
}

// P26.1: timers that are due let sessions try to connect, fall, and beat, in the order of their peers.
func TestTimers(t *testing.T) {
	c := settings(3)
	c.Hold, c.Retry = 9, 5
	r := made(t, c)
	for _, router := range []int{2, 0, 1} {
		r.do(api.Do{Kind: api.DoStart, Router: router})
	}
	tick := func() api.Done {
		t.Helper()
		return r.do(api.Do{Kind: api.DoTick})
	}
	for now := 1; now <= 10; now++ {
		x := tick()
		if now%5 != 0 {
			r.heard(x)
			continue
		}
		r.heard(x, api.Heard{Connect: true}, api.Heard{Router: 1, Connect: true}, api.Heard{Router: 2, Connect: true})
	}
	r.do(api.Do{Kind: api.DoConnect, Router: 0})
	o := theirs(2)
	o.Hold = 6
	r.up(2, o)
	r.says(2, comes(twenty, 1, path(home, 100)))
	r.out(2)
	for now := 11; now <= 15; now++ {
		x := tick()
		l := r.out(2)
		if now%2 == 0 && (len(l) != 1 || l[0].Type != api.TypeKeep) || now%2 != 0 && len(l) != 0 {
			t.Error(now, l)
		}
		if now != 15 {
			r.heard(x)
			continue
		}
		r.heard(x, api.Heard{Router: 1, Connect: true})
	}
	// The session is held 6 seconds from the update on, and falls where it would beat too.
	r.heard(tick(), fallen(2, noted(api.NoteHold, 0)))
	if s := r.Status(); s.Routes != 0 || s.Now != 16 || !slices.Equal(s.Phases, []int{api.PhaseSent, api.PhaseConnect, api.PhaseConnect}) {
		t.Error(s)
	}
	if l := r.out(2); len(l) != 0 {
		t.Error(l)
	}
	// And one that no Open came to 240 seconds from its connection on.
	for now := 17; now <= 250; now++ {
		x := tick()
		for _, h := range x.L {
			if h.Router == 0 && now != 250 {
				t.Error(now, h)
			}
		}
		if now == 250 {
			r.heard(x, api.Heard{Close: true, Last: noted(api.NoteHold, 0)}, api.Heard{Router: 1, Connect: true})
		}
	}
}

// P26.3: a detour is in force, and said, while its route is one of its prefix's detours; each thing that makes it none takes it back in that step.
func TestAskedAnew(t *testing.T) {
	longer := path(away, 90)
	longer.Path = []api.Segment{{AS: []int{7, 8, 9, 10}}}
	denied := path(away, 90)
	denied.Comms = []int{5, 66}
	mine := path(away, 90)
	mine.Path[0].AS = []int{65000}
	soft := comes(twenty, 2, path(away, 90))
	soft.Body[2+2+3] = 9
	for i, l := range [][]api.Message{
		{goes(twenty, 2)},
		{soft},
		{comes(twenty, 2, longer)},
		{comes(twenty, 2, denied)},
		{comes(twenty, 2, mine)},
		{comes(twenty, 2, path(away, 101))},       // it is the best one
		{comes(twenty, 1, path(home, 89))},        // likewise
		{comes(twenty, 2, path("10.1.0.9", 90))},  // behind the best one's interface
		{comes(twenty, 1, path("11.1.0.9", 100))}, // likewise
		{comes(twenty, 2, path("13.0.0.9", 90))},  // behind none
		{goes(twenty, 1)},
		{comes(twenty, 3, path("11.0.0.7", 200))}, // another one is the best one
		{goes(twenty, 1), goes(twenty, 2)},
		{comes("20.0.0.0/9", 1, path(away, 5)), goes(twenty, 2), comes(twenty, 3, path(away, 90))},
	} {
		c := settings(2)
		c.Deny = []int{66}
		r := detoured(t, c)
		x := r.says(0, l...)
		if !sameDone(x, api.Done{}) {
			t.Error(i, x)
		}
		r.forces()
		for router := range 2 {
			r.said(router)
			r.updates(router, api.Update{Gone: []api.Nlri{{P: prefix(twenty)}}})
		}
	}
}

// P26.3: what leaves a detour as it is, or has it said in other words.
func TestStays(t *testing.T) {
	long := path(away, 90)
	long.Origin, long.Path = 2, []api.Segment{{AS: []int{9, 8}}, {Set: true, AS: []int{70000, 3, 4}}}
	for i, x := range []struct {
		m    api.Message
		a    api.Attrs
		told bool
	}{
		{comes(twenty, 2, path(away, 90)), path(away, 90), false},
		{comes(twenty, 2, path(away, 5)), path(away, 5), false}, // the preference is ours
		{comes(twenty, 2, long), long, true},
		{comes(twenty, 2, path("11.5.5.5", 90)), path("11.5.5.5", 90), true},
		{comes(twenty, 2, path("12.5.5.5", 90)), path("12.5.5.5", 90), true}, // by another interface
		{comes(twenty, 1, path("12.0.0.1", 100)), path(away, 90), false},
		{comes(twenty, 3, path("12.0.0.1", 300)), path(away, 90), false},
		{comes("20.0.0.0/9", 2, path(away, 1)), path(away, 90), false},
		{goes(twenty, 3), path(away, 90), false},
		{goes("0.0.0.0/0", 2), path(away, 90), false},
	} {
		r := detoured(t, settings(2))
		if d := r.says(0, x.m); !sameDone(d, api.Done{}) {
			t.Error(i, d)
		}
		r.forces(over(0, twenty, 2, 22))
		var l []api.Update
		if x.told {
			l = []api.Update{{Routes: []api.Nlri{{P: prefix(twenty)}}, A: say(twenty, x.a, 1000).A}}
		}
		for router := range 2 {
			r.said(router, say(twenty, x.a, 1000))
			r.updates(router, l...)
		}
	}
}

// P26.1: what is said of a route is its origin, its path, its next hop, and our preference.
func TestOfRoute(t *testing.T) {
	a := path(away, 90)
	a.Origin, a.Med, a.Comms = 1, 5, []int{1, 2}
	r := detoured(t, settings(1))
	r.says(0, comes(twenty, 2, a))
	want := api.Attrs{Origin: 1, Path: a.Path, Next: a.Next, Med: -1, Pref: 1000}
	if l := r.Said(0); len(l) != 1 || l[0].P != prefix(twenty) || !attr.Same(l[0].A, want) {
		t.Error(l)
	}
}

// P26.1: a router that is gone takes its routes with it, and the detours by them. Nothing was said to it, also when it is back.
func TestGone(t *testing.T) {
	for _, kind := range []int{api.DoStop, api.DoDrop} {
		r := made(t, settings(2))
		r.up(0, theirs(0))
		r.up(1, theirs(1))
		r.says(0, comes(twenty, 1, path(home, 100)), comes("30.0.0.0/8", 1, path(home, 100)), comes("30.0.0.0/8", 2, path(away, 90)))
		r.says(1, comes(twenty, 2, path(away, 90)))
		r.flow(rate(twenty, 95), rate("30.0.0.0/8", 95))
		r.flow(rate(twenty, 95), rate("30.0.0.0/8", 95))
		r.forces(over(1, twenty, 2, 22), over(0, "30.0.0.0/8", 2, 22))
		first, second := say(twenty, path(away, 90), 1000), say("30.0.0.0/8", path(away, 90), 1000)
		r.said(0, first, second)
		r.said(1, first, second)
		r.out(0)
		r.out(1)
		x := r.do(api.Do{Kind: kind, Router: 1})
		if len(x.L) != 1 || !x.L[0].Down || x.L[0].Router != 1 {
			t.Error(x)
		}
		r.forces(over(0, "30.0.0.0/8", 2, 22))
		r.said(0, second)
		r.said(1)
		r.updates(0, api.Update{Gone: []api.Nlri{{P: prefix(twenty)}}})
		r.updates(1)
		r.up(1, theirs(1))
		r.said(1, second)
		r.updates(1, api.Update{Routes: []api.Nlri{{P: prefix("30.0.0.0/8")}}, A: second.A})
		r.updates(0)
	}
}

// P26.1: what may not be told to a router without AS numbers of 4 bytes is not said to it; other detours are.
func TestFour(t *testing.T) {
	r := made(t, settings(2))
	r.up(0, theirs(0))
	narrow := theirs(1)
	narrow.Four = false
	r.up(1, narrow)
	wide := path(away, 90)
	wide.Path[0].AS[0] = 70000
	r.says(0, comes(twenty, 1, path(home, 100)), comes(twenty, 2, wide), comes("30.0.0.0/8", 1, path(home, 100)), comes("30.0.0.0/8", 2, path("12.0.0.9", 90)))
	for range 2 {
		r.flow(rate(twenty, 91), rate("30.0.0.0/8", 92))
	}
	r.forces(over(0, twenty, 2, 22), over(0, "30.0.0.0/8", 2, 22))
	second := say("30.0.0.0/8", path("12.0.0.9", 90), 1000)
	r.said(0, say(twenty, wide, 1000), second)
	r.said(1, second)
	if l := r.outs(1, false); len(l) != 1 || len(l[0].Routes) != 1 || !attr.Same(l[0].A, second.A) {
		t.Error(l)
	}
	// It may be told as soon as its path may, and not any more when that may not.
	r.says(0, comes(twenty, 2, path(away, 90)))
	r.said(1, say(twenty, path(away, 90), 1000), second)
	r.says(0, comes(twenty, 2, wide))
	r.said(1, second)
	if l := r.outs(1, false); len(l) != 2 || len(l[0].Routes) != 1 || len(l[1].Gone) != 1 || len(l[1].Routes) != 0 {
		t.Error(l)
	}
	// By a session that has them, all may.
	r.do(api.Do{Kind: api.DoDrop, Router: 1})
	r.up(1, theirs(1))
	r.said(1, say(twenty, wide, 1000), second)
}

// P26.1: an interface that is to be left has its detours taken back at once; how much it carries counts in a cycle alone.
func TestCarries(t *testing.T) {
	c := settings(1)
	c.Carries = 1
	r := made(t, c)
	r.up(0, theirs(0))
	r.says(0, comes(twenty, 1, path(home, 100)), comes(twenty, 2, path(away, 90)), comes(twenty, 3, path("12.0.0.9", 80)))
	seq := 0
	carry := func(l ...api.Carry) {
		t.Helper()
		seq++
		if x := r.do(api.Do{Kind: api.DoCarries, Carries: api.Carries{Seq: seq, L: l}}); !sameDone(x, api.Done{}) {
			t.Error(x)
		}
	}
	carry()
	r.flow(rate(twenty, 95))
	r.flow(rate(twenty, 95))
	r.forces(over(0, twenty, 2, 22))
	carry(api.Carry{Iface: 2, Cap: 10}, api.Carry{Iface: 3, Drain: true})
	r.forces(over(0, twenty, 2, 22))
	carry(api.Carry{Iface: 2, Cap: 10, Drain: true})
	r.forces()
	r.said(0)
	r.flow(rate(twenty, 95))
	r.forces()
	carry(api.Carry{Iface: 3, Cap: 200})
	r.forces()
	r.flow(rate(twenty, 95))
	r.forces(over(0, twenty, 3, 24))
	r.said(0, say(twenty, path("12.0.0.9", 80), 1000))
	// By less than its load an interface is overloaded, in the next cycle.
	carry(api.Carry{Iface: 3, Cap: 90}, api.Carry{Iface: 2, Cap: 200})
	r.forces(over(0, twenty, 3, 24))
	r.flow(rate(twenty, 95))
	r.forces(over(0, twenty, 2, 25))
}

// P26.1: a cycle is at each multiple of Cycle, and lets what stays be in force anew; without one its time is over.
func TestCycles(t *testing.T) {
	c := settings(1)
	c.Cycle, c.Expire, c.Stale = 3, 4, 3
	r := made(t, c)
	r.up(0, theirs(0))
	r.says(0, comes(twenty, 1, path(home, 100)), comes(twenty, 2, path(away, 90)))
	for now := 1; now <= 12; now++ {
		x := r.flow(rate(twenty, 95))
		if x.Cycle != (now%3 == 0) || !x.Cycle && !samePlan(x.Plan, api.Plan{}) {
			t.Error(now, x)
		}
		if now < 3 {
			r.forces()
			continue
		}
		r.forces(over(0, twenty, 2, now/3*3+4))
		if x.Cycle && !samePlan(x.Plan, api.Plan{At: []int{0}, Moves: max(4-now, 0)}) {
			t.Error(now, x.Plan)
		}
	}
	r.updates(0, api.Update{Routes: []api.Nlri{{P: prefix(twenty)}}, A: say(twenty, path(away, 90), 1000).A})
}

// P26.3: its last moment is the one until which a detour is in force, though nothing else takes it back.
func TestExpire(t *testing.T) {
	c := settings(1)
	c.Cycle, c.Expire, c.Stale = 4, 2, 100
	r := made(t, c)
	r.up(0, theirs(0))
	r.says(0, comes(twenty, 1, path(home, 100)), comes(twenty, 2, path(away, 90)))
	for now := 1; now <= 24; now++ {
		r.flow(rate(twenty, 95))
		if now < 4 || now%4 == 3 {
			r.forces()
			r.said(0)
			continue
		}
		r.forces(over(0, twenty, 2, now/4*4+2))
		r.said(0, say(twenty, path(away, 90), 1000))
	}
}

// P26.1: prefixes with a demand, or a detour in force, are wanted, in order; those without routes are not.
func TestWants(t *testing.T) {
	c := settings(1)
	c.Low = 0
	r := made(t, c)
	r.up(0, theirs(0))
	ways := func(p string) []api.Message {
		return []api.Message{comes(p, 1, path(home, 100)), comes(p, 2, path(away, 90))}
	}
	for _, p := range []string{"40.0.0.0/8", twenty, "30.0.0.0/8", "50.0.0.0/8"} {
		r.says(0, ways(p)...)
	}
	r.flow(rate("50.0.0.0/8", 1), rate("30.0.0.0/8", 200), rate("10.0.0.0/8", 7), rate(twenty, 91))
	x := r.flow(rate("50.0.0.0/8", 1), rate("30.0.0.0/8", 200), rate("10.0.0.0/8", 7), rate(twenty, 91))
	// 30.0.0.0/8 fits nowhere, 20.0.0.0/8 does, and the interface stays overloaded: 50.0.0.0/8 is moved too.
	if !samePlan(x.Plan, api.Plan{At: []int{0, -1, 0}, Moves: 2}) {
		t.Error(x.Plan)
	}
	r.forces(over(0, twenty, 2, 22), over(0, "50.0.0.0/8", 2, 22))
	// Of those that are in force there are wants, even where nothing goes there any more; those without a demand go back, where 0 fits.
	x = r.flow(rate("40.0.0.0/8", 0), rate("50.0.0.0/8", 0), rate("30.0.0.0/8", 200))
	if !samePlan(x.Plan, api.Plan{At: []int{0, -1, 0}}) {
		t.Error(x.Plan)
	}
	x = r.flow(rate("50.0.0.0/8", 0))
	if !samePlan(x.Plan, api.Plan{At: []int{-1, -1}, Moves: 2}) {
		t.Error(x.Plan)
	}
	r.forces()
	r.said(0)
	if x = r.flow(); !x.Cycle || !samePlan(x.Plan, api.Plan{}) {
		t.Error(x)
	}
}

// P26.1: what is wanted goes out by the place of its detour among the others, in rank, wherever that is.
func TestPlace(t *testing.T) {
	r := detoured(t, settings(1))
	r.says(0, comes(twenty, 3, path("12.0.0.1", 95)), comes(twenty, 4, path("12.0.0.2", 94)))
	x := r.flow(rate(twenty, 95))
	if !samePlan(x.Plan, api.Plan{At: []int{2}}) {
		t.Error(x.Plan)
	}
	r.forces(over(0, twenty, 2, 23))
	r.says(0, goes(twenty, 3))
	x = r.flow(rate(twenty, 95))
	if !samePlan(x.Plan, api.Plan{At: []int{1}}) {
		t.Error(x.Plan)
	}
	r.forces(over(0, twenty, 2, 24))
}

// P26.1: a route whose key is all zero is in force only where it was taken.
func TestZeroKey(t *testing.T) {
	const rest = "0.0.0.0/0"
	r := made(t, settings(1))
	r.up(0, theirs(0))
	r.says(0, comes(rest, 1, path(home, 100)), comes(rest, 0, path(away, 90)))
	for range 3 {
		x := r.flow(rate(rest, 90))
		if at := x.Plan.At; len(at) > 0 && at[0] != -1 {
			t.Error(x.Plan)
		}
		r.forces()
	}
	r.flow(rate(rest, 91))
	r.forces(over(0, rest, 0, 24))
	r.said(0, say(rest, path(away, 90), 1000))
	r.says(0, goes(rest, 0))
	r.forces()
	r.said(0)
}

// P26.1: a plan that is Over changes nothing: what is in force stays as it is, up to its time.
func TestOver(t *testing.T) {
	c := settings(1)
	c.Stale = 100
	r := detoured(t, c)
	r.says(0, comes("60.0.0.0/8", 1, path(home, 5)))
	r.do(api.Do{Kind: api.DoCounts, Counts: api.Report{Seq: 3, Counts: []api.Count{rate(twenty, 285), rate("60.0.0.0/8", 0)}}})
	r.do(api.Do{Kind: api.DoTick})
	r.forces(over(0, twenty, 2, 23))
	r.do(api.Do{Kind: api.DoCounts, Counts: api.Report{Seq: 4, Counts: []api.Count{rate(twenty, 380), rate("60.0.0.0/8", api.MaxSum)}}})
	for now := 4; now <= 24; now++ {
		x := r.do(api.Do{Kind: api.DoTick})
		at := []int{0, -1}
		if now > 23 {
			at[0] = -1
		}
		if !x.Cycle || !samePlan(x.Plan, api.Plan{At: at, Over: true}) {
			t.Error(now, x)
		}
		if now > 23 {
			r.forces()
			r.said(0)
			continue
		}
		r.forces(over(0, twenty, 2, 23))
		r.said(0, say(twenty, path(away, 90), 1000))
	}
}

// P2: no more than Moves in a cycle.
func TestMoves(t *testing.T) {
	c := settings(1)
	c.Moves = 2
	r := made(t, c)
	r.up(0, theirs(0))
	var l []api.Count
	for i := range 5 {
		p := addr.Show(addr.Make(uint32(20+i)<<24, 8))
		r.says(0, comes(p, 1, path(home, 100)), comes(p, 2, path(away, 90)))
		l = append(l, rate(p, 36))
	}
	r.flow(l...)
	for i, want := range []api.Plan{
		{At: []int{0, 0, -1, -1, -1}, Moves: 2, More: true},
		{At: []int{0, 0, 0, -1, -1}, Moves: 1},
		{At: []int{0, 0, 0, -1, -1}},
	} {
		x := r.flow(l...)
		if !samePlan(x.Plan, want) {
			t.Error(i, x.Plan)
		}
		if n := len(r.Status().Overs); n != min(i+2, 3) || len(r.Said(0)) != n {
			t.Error(i, n)
		}
	}
}

// P26.4, P3: the gate steps by what a tick finds; each input by itself keeps it shut, and lets no detour be in force.
func TestGate(t *testing.T) {
	for i, x := range []struct {
		loses func(r *rig)
		opens func(r *rig)
	}{
		{func(r *rig) { r.do(api.Do{Kind: api.DoDrop, Router: 1}) }, func(r *rig) { r.up(1, theirs(1)) }},
		{func(r *rig) { r.do(api.Do{Kind: api.DoStop, Router: 1}) }, func(r *rig) { r.up(1, theirs(1)) }},
		{func(r *rig) { r.says(1, opened(theirs(1))) }, func(r *rig) { r.up(1, theirs(1)) }},
	} {
		c := settings(2)
		c.Warm = 3
		r := made(t, c)
		r.up(0, theirs(0))
		r.up(1, theirs(1))
		r.says(0, comes(twenty, 1, path(home, 100)), comes(twenty, 2, path(away, 90)))
		warms := func() {
			t.Helper()
			for k := range 3 {
				r.forces()
				r.said(0)
				x := r.flow(rate(twenty, 95))
				if s := r.Status(); s.Open != (k == 2) || x.Cycle != s.Open {
					t.Error(i, k, s)
				}
			}
			r.forces(over(0, twenty, 2, r.Status().Now+20))
		}
		r.flow(rate(twenty, 95))
		r.do(api.Do{Kind: api.DoDrop, Router: 1})
		r.do(api.Do{Kind: api.DoTick})
		r.up(1, theirs(1))
		warms()
		x.loses(r)
		// What is in force hangs on nothing that was lost, so it stays up to the tick.
		r.forces(over(0, twenty, 2, r.Status().Now+20))
		r.said(0, say(twenty, path(away, 90), 1000))
		if d := r.flow(rate(twenty, 95)); d.Cycle || r.Status().Open {
			t.Error(i, d)
		}
		r.forces()
		r.said(0)
		x.opens(r)
		warms()
	}
}

// P26.4: each source of counts, and of what interfaces carry, must have been heard not more than Stale seconds ago.
func TestStale(t *testing.T) {
	c := settings(1)
	c.Counts, c.Carries, c.Stale = 2, 2, 3
	hear := []func(r *rig, seq int){
		func(r *rig, seq int) { r.do(api.Do{Kind: api.DoCounts, Counts: api.Report{Seq: seq}}) },
		func(r *rig, seq int) { r.do(api.Do{Kind: api.DoCounts, Counts: api.Report{Source: 1, Seq: seq}}) },
		func(r *rig, seq int) { r.do(api.Do{Kind: api.DoCarries, Carries: api.Carries{Seq: seq}}) },
		func(r *rig, seq int) { r.do(api.Do{Kind: api.DoCarries, Carries: api.Carries{Source: 1, Seq: seq}}) },
	}
	for but := range hear {
		r := made(t, c)
		r.up(0, theirs(0))
		isOpen := func(want bool) {
			t.Helper()
			if x := r.do(api.Do{Kind: api.DoTick}); x.Cycle != want || r.Status().Open != want {
				t.Error(but, r.Status())
			}
		}
		seq := 0
		all := func(without int) {
			seq++
			for i, f := range hear {
				if i != without {
					f(r, seq)
				}
			}
		}
		all(but)
		isOpen(false)
		seq++
		hear[but](r, seq)
		isOpen(true)
		for range 2 {
			all(but)
			isOpen(true)
		}
		all(but)
		isOpen(false)
		// A report that is refused was not heard.
		r.Step(api.Do{Kind: []int{api.DoCounts, api.DoCarries}[but/2], Counts: api.Report{Source: but % 2}, Carries: api.Carries{Source: but % 2}})
		isOpen(false)
		all(-1)
		isOpen(true)
	}
}

// P26.4: what was in force is taken back at the first tick beyond Stale.
func TestStaleDetour(t *testing.T) {
	r := detoured(t, settings(2))
	for range 4 {
		r.do(api.Do{Kind: api.DoTick})
		r.forces(over(0, twenty, 2, r.Status().Now+20))
	}
	r.out(0)
	r.do(api.Do{Kind: api.DoTick})
	r.forces()
	for router := range 2 {
		r.said(router)
		r.updates(router, api.Update{Gone: []api.Nlri{{P: prefix(twenty)}}})
	}
	if r.Status().Open {
		t.Error(r.Status())
	}
}

// P26.4: where a route was refused, inputs are not fresh any more.
func TestRefusedRoute(t *testing.T) {
	c := settings(1)
	c.Routes = 2
	r := detoured(t, c)
	r.says(0, comes("30.0.0.0/8", 1, path(home, 5)))
	if s := r.Status(); s.Refused != 1 || s.Routes != 2 {
		t.Error(s)
	}
	r.forces(over(0, twenty, 2, 22))
	r.flow(rate(twenty, 95))
	r.forces()
	r.do(api.Do{Kind: api.DoDrop})
	r.up(0, theirs(0))
	for range 3 {
		r.flow()
		if s := r.Status(); s.Open || s.Refused != 1 {
			t.Error(s)
		}
	}
}

// sets is a path of so many of the greatest sets: each counts 1, and has more than 256 bytes.
func sets(n, as int) []api.Segment {
	var l []api.Segment
	for range n {
		l = append(l, api.Segment{Set: true, AS: slices.Repeat([]int{as}, api.MaxSegment)})
	}
	return l
}

// greatDetours is a controller of so many routers, with room for 4096 bytes that wait: just two updates of its detours. One router tells n prefixes, of which so many are moved in each cycle, from the moment 2 on. Nothing waits yet.
func greatDetours(t *testing.T, routers, teller, n, moves int) (*rig, []api.Count) {
	t.Helper()
	c := settings(routers)
	c.Queue, c.Longer, c.Moves = api.LeastQueue, 255, moves
	c.Ifaces[3*teller+1].Cap = 1 << 20
	r := made(t, c)
	for router := range routers {
		r.up(router, theirs(router))
		r.out(router)
	}
	var l []api.Count
	for i := range n {
		p := addr.Show(addr.Make(uint32(20+i)<<24, 8))
		a := path(away, 90)
		a.Path = sets(7, i+1)
		r.says(teller, comes(p, 1, path(home, 100)), comes(p, 2, a))
		l = append(l, rate(p, 91))
	}
	r.heard(r.flow(l...))
	return r, l
}

// P26.1: a router that does not take what it must be told falls with Note 6, 8; the others are told.
func TestFull(t *testing.T) {
	r, l := greatDetours(t, 3, 0, 4, 2)
	r.heard(r.flow(l...))
	r.out(0)
	r.out(2)
	r.heard(r.flow(l...), fallen(1, noted(api.NoteCease, 8)))
	if s := r.Status(); !slices.Equal(s.Phases, []int{api.PhaseUp, api.PhaseConnect, api.PhaseUp}) || len(s.Overs) != 4 {
		t.Error(s)
	}
	r.said(1)
	if out := r.out(1); len(out) != 0 {
		t.Error(out)
	}
	for _, router := range []int{0, 2} {
		if l := r.outs(router, true); len(r.Said(router)) != 4 || len(l) != 2 {
			t.Error(router, len(r.Said(router)), l)
		}
	}
	// It is not told more than it has room for later on either.
	r.do(api.Do{Kind: api.DoConnect, Router: 1})
	r.heard(r.says(1, opened(theirs(1)), kept()), api.Heard{Router: 1, Up: true}, fallen(1, noted(api.NoteCease, 8)))
	r.says(0, goes("22.0.0.0/8", 2), goes("23.0.0.0/8", 1))
	r.up(1, theirs(1))
	if l := r.Said(1); len(l) != 2 || !slices.EqualFunc(l, r.Said(0), sameSay) {
		t.Error(l)
	}
}

// P26.1: where the router falls whose routes are the detours, nothing is left to be said to those behind it, and what was said to those ahead of it is taken back.
func TestFullTeller(t *testing.T) {
	r, l := greatDetours(t, 3, 0, 3, 3)
	r.heard(r.flow(l...), fallen(0, noted(api.NoteCease, 8)))
	r.forces()
	if s := r.Status(); s.Routes != 0 || !slices.Equal(s.Phases, []int{api.PhaseConnect, api.PhaseUp, api.PhaseUp}) {
		t.Error(s)
	}
	for router := range 3 {
		r.said(router)
		r.updates(router)
	}

	r, l = greatDetours(t, 3, 2, 3, 2)
	r.heard(r.flow(l...))
	r.out(0)
	r.out(1)
	r.heard(r.flow(l...), fallen(2, noted(api.NoteCease, 8)))
	r.forces()
	for router := range 3 {
		r.said(router)
		got := r.outs(router, true)
		if router == 2 && len(got) == 0 {
			continue
		}
		if len(got) != 2 || len(got[0].Routes) != 1 || len(got[1].Gone) != 3 {
			t.Error(router, got)
		}
	}
}

// P26.1: those that fall are told of in the order in which they are found, and what the last one leaves is said to those that stay.
func TestFullMany(t *testing.T) {
	c := settings(4)
	c.Queue, c.Longer = api.LeastQueue, 255
	r := made(t, c)
	for router := range 4 {
		r.up(router, theirs(router))
		r.out(router)
	}
	big := func(as int) api.Attrs {
		a := path(away, 90)
		a.Path = sets(8, as)
		return a
	}
	thirty := "30.0.0.0/8"
	r.says(3, comes(twenty, 1, path(home, 100)), comes(twenty, 2, big(1)))
	r.says(2, comes(thirty, 1, path(home, 100)), comes(thirty, 2, big(2)))
	r.flow(rate(twenty, 95), rate(thirty, 95))
	x := r.flow(rate(twenty, 95), rate(thirty, 95))
	r.heard(x, fallen(0, noted(api.NoteCease, 8)), fallen(1, noted(api.NoteCease, 8)), fallen(2, noted(api.NoteCease, 8)))
	r.forces(over(3, twenty, 2, 22))
	r.said(3, say(twenty, big(1), 1000))
	// To the last one both would not fit; the one that is gone was not told to it.
	l := r.outs(3, true)
	if len(l) != 1 || !slices.Equal(l[0].Routes, []api.Nlri{{P: prefix(twenty)}}) {
		t.Error(l)
	}
}

// manyDetours is a controller with so many prefixes, from 20.0.0.0/24 on, whose first choices go out by interfaces that carry nothing: that of the first prefix by one of its own.
func manyDetours(t *testing.T, n int) *rig {
	t.Helper()
	c := settings(1)
	c.Counts, c.Moves, c.Stale, c.Expire = 16, 1024, 1000, 1000
	c.Ifaces[0].Cap, c.Ifaces[1].Cap, c.Ifaces[2].Cap = 0, 1<<40, 0
	r := made(t, c)
	r.up(0, theirs(0))
	for i := 0; i < n; i += 400 {
		var l []api.Message
		for k := i; k < min(i+400, n); k++ {
			l = append(l, comes(manyth(k), 1, path(home, 100)), comes(manyth(k), 2, path(away, 90)))
		}
		r.says(0, l...)
	}
	r.says(0, comes(manyth(0), 1, path("12.0.0.9", 100)))
	return r
}

// manyth is a prefix of manyDetours.
func manyth(i int) string { return addr.Show(addr.Make(20<<24+uint32(i)<<8, 24)) }

// flows is as flow, by all 16 sources, of the first so many prefixes of manyDetours.
func (r *rig) flows(many int, n func(i int) int) api.Done {
	r.Helper()
	r.seq++
	for source := range 16 {
		var l []api.Count
		for i := source * 1000; i < min(source*1000+1000, many); i++ {
			p := prefix(manyth(i))
			r.totals[p] += n(i)
			l = append(l, api.Count{P: p, N: r.totals[p]})
		}
		r.do(api.Do{Kind: api.DoCounts, Counts: api.Report{Source: source, Seq: r.seq, Counts: l}})
	}
	r.out(0)
	return r.do(api.Do{Kind: api.DoTick})
}

// P26.1: as many detours are in force as may be; those that go back make room for those that come in the same cycle, wherever they stand.
func TestMostOvers(t *testing.T) {
	begun := time.Now()
	r := manyDetours(t, api.MaxOvers+9)
	forces := func(n int, is func(i int) bool) {
		t.Helper()
		var want []api.Key
		for i := range api.MaxOvers + 9 {
			if is(i) {
				want = append(want, api.Key{P: prefix(manyth(i)), ID: 2})
			}
		}
		var got []api.Key
		for _, o := range r.Status().Overs {
			got = append(got, o.Key)
		}
		if !slices.Equal(got, want) || len(got) != n || len(r.Said(0)) != n {
			t.Fatal(len(got), len(want), len(r.Said(0)))
		}
	}
	but := func(k int) func(i int) int {
		return func(i int) int {
			if i == k {
				return 0
			}
			return 5
		}
	}
	const n = api.MaxOvers + 1
	r.flows(n, but(0))
	for i := range 4 {
		if x := r.flows(n, but(0)); x.Plan.Moves != 1024 {
			t.Fatal(i, x.Plan.Moves)
		}
	}
	forces(api.MaxOvers, func(i int) bool { return i > 0 && i < n })
	if x := r.flows(n, but(n-1)); x.Plan.Moves != 2 {
		t.Error(x.Plan.Moves)
	}
	forces(api.MaxOvers, func(i int) bool { return i < n-1 })
	if x := r.flows(n, but(0)); x.Plan.Moves != 2 {
		t.Error(x.Plan.Moves)
	}
	forces(api.MaxOvers, func(i int) bool { return i > 0 && i < n })

	// There is no room for one more, whatever its place is; those that are in force stay.
	for range 2 {
		x := r.flows(n, func(int) int { return 5 })
		if x.Plan.Moves != 1 || len(x.Plan.At) != n || x.Plan.At[0] != 0 {
			t.Error(x.Plan.Moves)
		}
		forces(api.MaxOvers, func(i int) bool { return i > 0 && i < n })
		s := r.Status()
		for _, o := range s.Overs {
			if o.Until != s.Now+1000 {
				t.Fatal(o)
			}
		}
	}
	if took := time.Since(begun); took > 20*time.Second {
		t.Error(took)
	}
}

// R3: what is handed in is neither changed nor kept, and what is answered is the caller's.
func TestShares(t *testing.T) {
	c := settings(1)
	c.Carries, c.Deny = 1, []int{66}
	r := made(t, c)
	c.Deny[0] = 1
	for i := range c.Ifaces {
		c.Ifaces[i] = api.Iface{}
	}
	r.up(0, theirs(0))
	denied := path(away, 90)
	denied.Comms = []int{1}
	data := sent(comes(twenty, 1, path(home, 100)), comes(twenty, 2, denied))
	cut := len(data) - 5
	before := bytes.Clone(data)
	for _, piece := range [][]byte{data[:cut:cut], data[cut:]} {
		r.do(api.Do{Kind: api.DoBytes, Data: piece})
		if !bytes.Equal(data, before) {
			t.Fatal("bytes are changed")
		}
		for i := range piece {
			piece[i], before[i+len(before)-len(data)] = 0, 0
		}
		before = bytes.Clone(data)
	}
	counts := []api.Count{rate(twenty, 0)}
	r.do(api.Do{Kind: api.DoCounts, Counts: api.Report{Seq: 1, Counts: counts}})
	carry := []api.Carry{{Iface: 2, Cap: 200}}
	r.do(api.Do{Kind: api.DoCarries, Carries: api.Carries{Seq: 1, L: carry}})
	counts[0], carry[0] = api.Count{}, api.Carry{}
	r.do(api.Do{Kind: api.DoTick})
	counts = []api.Count{rate(twenty, 95)}
	r.do(api.Do{Kind: api.DoCounts, Counts: api.Report{Seq: 2, Counts: counts}})
	x := r.do(api.Do{Kind: api.DoTick})
	r.forces(over(0, twenty, 2, 22))
	x.Plan.At[0] = -1

	want := r.seen()
	s := r.Status()
	s.Phases[0], s.Overs[0] = 0, api.Over{}
	r.Demands()[0] = api.Count{}
	for range 2 {
		l := r.Said(0)
		l[0].A.Path[0].AS[0] = 9
		l[0].A.Path[0] = api.Segment{}
		l[0] = api.Say{}
	}
	for _, x := range r.Routes(prefix(twenty)) {
		x.A.Path[0].AS[0] = 9
		if len(x.A.Comms) > 0 {
			x.A.Comms[0] = 66
		}
	}
	r.do(api.Do{Kind: api.DoStart})
	if got := r.seen(); !reflect.DeepEqual(got, want) {
		t.Errorf("%+v, not %+v", got, want)
	}
	r.out(0)
	r.do(api.Do{Kind: api.DoTick})
	r.updates(0)
	r.forces(over(0, twenty, 2, 23))
}
