package control_test

import (
	"cmp"
	"maps"
	"slices"
	"testing"

	"bypath/addr"
	"bypath/api"
	"bypath/attr"
	"bypath/capa"
	"bypath/conf"
	"bypath/diff"
	"bypath/frame"
	"bypath/hop"
	"bypath/meter"
	"bypath/peer"
	"bypath/pick"
	"bypath/policy"
	"bypath/rib"
	"bypath/timer"
	"bypath/update"
)

// model is a controller as the chapter's words say: whatever it asks or says, it asks and says all of it.
type model struct {
	c       api.Conf
	now     int
	counted int
	fresh   bool
	timers  *timer.Timers
	peers   []*peer.Peer
	routes  *rib.Rib
	hops    *hop.Hops
	caps    *capa.Capa
	meter   *meter.Meter
	overs   map[api.Prefix]api.Over
	said    [api.MaxRouters][]api.Say
	done    api.Done
	seen    seen
}

// seen is how often things happened that a test of any steps should meet.
type seen struct{ moved, back, more, over, expired, asked, full, chained, shut, up, told, narrow, carried, late int }

func newModel(c api.Conf) *model {
	m := &model{c: c, timers: timer.New(), meter: meter.New(), overs: map[api.Prefix]api.Over{}}
	for router := range c.Routers {
		p, _ := peer.New(router, conf.Local(c), c.Queue, m.timers)
		m.peers = append(m.peers, p)
	}
	m.routes, _ = rib.New(c.AS, c.Routes)
	m.hops, _ = hop.New(c.Ifaces)
	m.caps, _ = capa.New(m.hops)
	return m
}

func (m *model) step(d api.Do) api.Done {
	m.done = api.Done{}
	if e := m.refuses(d); e != api.OK {
		return api.Done{E: e}
	}
	switch d.Kind {
	case api.DoStart:
		m.came(d.Router, m.peers[d.Router].Do(api.EvStart, m.now))
	case api.DoStop:
		m.came(d.Router, m.peers[d.Router].Do(api.EvStop, m.now))
	case api.DoConnect:
		m.came(d.Router, m.peers[d.Router].Do(api.EvUp, m.now))
	case api.DoDrop:
		m.came(d.Router, m.peers[d.Router].Do(api.EvDown, m.now))
	case api.DoBytes:
		m.came(d.Router, m.peers[d.Router].Feed(d.Data, m.now))
	case api.DoOut:
		m.done.Out = m.peers[d.Router].Out(d.N)
		return m.done
	case api.DoTick:
		m.tick()
		return m.done
	case api.DoCounts:
		m.done.E = m.meter.Take(d.Counts, m.now)
		return m.done
	case api.DoCarries:
		if e := m.caps.Take(d.Carries, m.now); e != api.OK {
			return api.Done{E: e}
		}
		m.seen.carried++
	}
	m.ask()
	m.say()
	return m.done
}

func (m *model) refuses(d api.Do) api.Errno {
	toRouter := d.Kind >= api.DoStart && d.Kind <= api.DoOut
	switch {
	case d.Kind < api.DoStart || d.Kind > api.DoCarries,
		toRouter && (d.Router < 0 || d.Router >= m.c.Routers),
		d.Kind == api.DoBytes && len(d.Data) > 65536,
		d.Kind == api.DoCounts && (d.Counts.Source < 0 || d.Counts.Source >= m.c.Counts),
		d.Kind == api.DoCarries && (d.Carries.Source < 0 || d.Carries.Source >= m.c.Carries):
		return api.ErrArg
	}
	return api.OK
}

func (m *model) came(router int, r api.Result) {
	if r.Connect || r.Close || r.Up || r.Down || r.Last != nil {
		m.done.L = append(m.done.L, api.Heard{Router: router, Connect: r.Connect, Close: r.Close, Up: r.Up, Down: r.Down, Last: r.Last})
	}
	for _, u := range r.Updates {
		m.routes.Apply(router, u)
		m.seen.told++
	}
	if r.Up {
		m.said[router] = nil
		m.seen.up++
	}
	if r.Down {
		m.routes.Flush(router)
		m.said[router] = nil
	}
}

// isDetour tells whether k is the key of one of its prefix's detours.
func (m *model) isDetour(k api.Key) bool {
	for _, o := range policy.Detours(m.c, m.hops, m.caps, m.routes.Routes(k.P)) {
		if o.R.Key == k {
			return true
		}
	}
	return false
}

func (m *model) ask() {
	for _, o := range m.inForce() {
		if !m.isDetour(o.Key) {
			delete(m.overs, o.Key.P)
			m.seen.asked++
		}
	}
}

func (m *model) inForce() []api.Over {
	return slices.SortedFunc(maps.Values(m.overs), func(a, b api.Over) int { return addr.Compare(a.Key.P, b.Key.P) })
}

func (m *model) isUp(router int) bool { return m.peers[router].State().Phase == api.PhaseUp }

func (m *model) say() {
	for fell := true; fell; {
		fell = false
		for router := 0; router < m.c.Routers && !fell; router++ {
			if !m.isUp(router) {
				continue
			}
			four := m.peers[router].State().Four
			var is []api.Say
			for _, o := range m.inForce() {
				a, _ := m.routes.Get(o.Key)
				s := diff.Of(api.Route{Key: o.Key, A: a}, m.c.Pref)
				if attr.Check(s.A, four) == api.OK {
					is = append(is, s)
				} else {
					m.seen.narrow++
				}
			}
			l, _ := diff.Updates(m.said[router], is, four)
			for _, u := range l {
				if m.peers[router].Put(u) == api.ErrFull {
					fell = true
					break
				}
			}
			if fell {
				m.seen.full++
				before := len(m.overs)
				m.came(router, m.peers[router].Close(api.Note{Code: 6, Sub: 8}, m.now))
				m.ask()
				if len(m.overs) < before {
					m.seen.chained++
				}
			} else {
				m.said[router] = is
			}
		}
	}
}

// isFresh tells whether all that the controller hangs on was heard.
func (m *model) isFresh() bool {
	ok := m.routes.Refused() == 0
	for router := range m.c.Routers {
		ok = ok && m.isUp(router)
	}
	for source := range m.c.Counts {
		at, is := m.meter.Stamp(source)
		ok = ok && is && m.now-at <= m.c.Stale
	}
	for source := range m.c.Carries {
		at, is := m.caps.Stamp(source)
		ok = ok && is && m.now-at <= m.c.Stale
	}
	return ok
}

func (m *model) tick() {
	m.now++
	for _, k := range m.timers.Due(m.now) {
		m.came(k.Peer, m.peers[k.Peer].Do(api.EvHold+k.Kind-api.TimerHold, m.now))
		m.seen.late++
	}
	for p, o := range m.overs {
		if o.Until < m.now {
			delete(m.overs, p)
			m.seen.expired++
		}
	}
	m.ask()
	m.fresh = m.isFresh()
	m.counted++
	if !m.fresh {
		m.counted = 0
	}
	if m.counted < m.c.Warm {
		m.seen.shut += len(m.overs)
		m.overs = map[api.Prefix]api.Over{}
	} else if m.now%m.c.Cycle == 0 {
		m.cycle()
	}
	m.say()
}

func (m *model) cycle() {
	var l []api.Want
	for _, p := range m.routes.Prefixes() {
		o, is := m.overs[p]
		n := m.meter.Demand(p)
		if n == 0 && !is {
			continue
		}
		w := api.Want{P: p, N: n, At: -1}
		w.First, _ = policy.First(m.hops, m.routes.Routes(p))
		w.Detours = policy.Detours(m.c, m.hops, m.caps, m.routes.Routes(p))
		for i, d := range w.Detours {
			if is && d.R.Key == o.Key {
				w.At = i
			}
		}
		l = append(l, w)
	}
	plan := pick.Run(m.c, m.caps, l)
	m.done.Cycle, m.done.Plan = true, plan
	if plan.Over {
		m.seen.over++
		return
	}
	if plan.More {
		m.seen.more++
	}
	m.overs = map[api.Prefix]api.Over{}
	for i, w := range l {
		if at := plan.At[i]; at >= 0 {
			m.overs[w.P] = api.Over{Key: w.Detours[at].R.Key, Until: m.now + m.c.Expire}
		}
		if plan.At[i] != w.At {
			m.seen.moved++
		}
		if plan.At[i] < w.At {
			m.seen.back++
		}
	}
}

func (m *model) status() api.Status {
	s := api.Status{Now: m.now, Routes: m.routes.Len(), Refused: m.routes.Refused(), Open: m.counted >= m.c.Warm, Overs: m.inForce()}
	for _, p := range m.peers {
		s.Phases = append(s.Phases, p.State().Phase)
	}
	return s
}

// listener is the other side of a session: what it reads is told to it.
type listener struct {
	stream *frame.Stream
	told   []api.Say
}

func (l *listener) reads(t *testing.T, b []byte, four bool) {
	l.stream.Feed(b)
	for {
		m, is, bad := l.stream.Next()
		if bad.Code != 0 {
			t.Fatal(bad)
		}
		if !is {
			return
		}
		if m.Type != api.TypeUpdate {
			continue
		}
		u, bad := update.Get(m.Body, four, false)
		if bad.Code != 0 || u.Soft {
			t.Fatal(bad, u)
		}
		l.told = diff.Apply(l.told, u)
	}
}

// wild is steps of any kind, by numbers of any source, that let sessions come up more often than fall; and those who listen to what goes out.
type wild struct {
	*rig
	m         *model
	next      func(below int) int
	opens     [api.MaxRouters]api.Open
	rest      [api.MaxRouters][]byte
	second    []api.Do // what is told behind one another, up to a tick
	great     bool     // much is to be told of each route
	huge      bool     // too much to tell goes to prefixes now and then
	listeners [api.MaxRouters]listener
	seqs      [2]int
}

func (w *wild) one(of int) bool { return w.next(of) == 0 }

// anySettings are such that much happens in few steps.
func anySettings(next func(below int) int) api.Conf {
	c := settings(1 + next(3))
	c.Hold = []int{0, 0, 0, 3, 90}[next(5)]
	c.Counts, c.Carries = 1+next(2), next(2)
	c.High, c.Low, c.Moves = 900, 300+next(600), 1+next(4)
	c.Cycle, c.Warm, c.Stale, c.Expire = 1+next(3), 1+next(2), 2+next(6), 1+next(8)
	c.Retry = 1 + next(5)
	c.Longer = []int{0, 2, 255}[next(3)]
	c.Deny = []int{66}
	if next(2) == 0 {
		c.Queue, c.Longer = api.LeastQueue, 255
	}
	if next(8) == 0 {
		c.Routes = next(12)
	}
	return c
}

func newWild(t *testing.T, next func(below int) int) *wild {
	c := anySettings(next)
	w := &wild{rig: made(t, c), m: newModel(c), next: next, great: c.Queue == api.LeastQueue, huge: next(3) == 0}
	for router := range w.listeners {
		w.listeners[router].stream = frame.New()
	}
	return w
}

// prefixes are all that there are.
func (w *wild) prefixes() []api.Prefix {
	var l []api.Prefix
	for _, s := range []string{twenty, "20.0.0.0/16", "30.0.0.0/8", "0.0.0.0/0", "40.0.0.0/8", "50.1.0.0/17"} {
		l = append(l, prefix(s))
	}
	return l
}

func (w *wild) somePrefix() api.Prefix { return w.prefixes()[w.next(6)] }

// someAttrs are most often such that the path of the ID 0 is the first choice, others are detours.
func (w *wild) someAttrs(id int) api.Attrs {
	a := path([]string{home, away, "12.0.0.1"}[id], 100-id)
	if w.one(4) {
		a = path([]string{home, "10.9.9.9", away, "11.9.9.9", "12.0.0.1", "13.0.0.1"}[w.next(6)], []int{100, 98, 90, 110, -1}[w.next(5)])
	}
	if w.great && w.one(3) {
		a.Path = sets(1+w.next(8), 1+w.next(9))
	}
	switch w.next(20) {
	case 0:
		a.Path[0].AS = []int{7, 8, 9, 10}[:1+w.next(4)]
	case 1:
		a.Path = nil
	case 2:
		a.Path = []api.Segment{{AS: []int{70000}}}
	case 3:
		a.Comms = []int{5, 66}
	case 4:
		a.Comms, a.Med, a.Origin = []int{5}, w.next(3), w.next(3)
	case 5:
		a.Path[0].AS = []int{7, 65000}[:1+w.next(2)]
	}
	return a
}

// someUpdate is an update's message by what a router says of itself, now and then a soft one.
func (w *wild) someUpdate(o api.Open) api.Message {
	paths := o.Paths > 1
	some := func(n int) []api.Nlri {
		var l []api.Nlri
		for range n {
			x := api.Nlri{P: w.somePrefix()}
			if paths {
				x.ID = w.next(3)
			}
			l = append(l, x)
		}
		return l
	}
	u := api.Update{Gone: some(max(w.next(6)-4, 0)), Routes: some(w.next(4))}
	if len(u.Routes) > 0 {
		u.A = w.someAttrs(u.Routes[0].ID)
	}
	for i := range u.Routes {
		u.Routes[i].ID = u.Routes[0].ID
	}
	m, e := update.Put(u, o.Four, paths)
	if e != api.OK {
		return kept()
	}
	if at := len(m.Body) - 1; w.one(100) {
		m.Body[w.next(at+1)] ^= 1 << w.next(8)
	}
	return m
}

// someBytes are what comes in by a router's session in its phase.
func (w *wild) someBytes(router, phase int) []byte {
	if len(w.rest[router]) > 0 && !w.one(30) {
		b := w.rest[router]
		w.rest[router] = nil
		return b
	}
	o := &w.opens[router]
	switch {
	case w.one(150):
		return []byte{255, 254}
	case w.one(150):
		return noted(api.NoteCease, 2)
	case phase == api.PhaseUp && !w.one(100):
		var l []api.Message
		for range 1 + w.next(3) {
			l = append(l, w.someUpdate(*o))
		}
		return sent(l...)
	case phase == api.PhaseConfirm && !w.one(30):
		if w.one(2) {
			return sent(kept(), w.someUpdate(*o))
		}
		return sent(kept())
	}
	*o = theirs(router)
	o.Hold = []int{0, 0, 0, 3, 90}[w.next(5)]
	o.Four, o.Paths = !w.one(5), []int{2, 2, 2, 3, 1}[w.next(5)]
	if w.one(3) {
		return sent(opened(*o), kept(), w.someUpdate(*o))
	}
	return sent(opened(*o))
}

// some is the next thing that is told.
func (w *wild) some() api.Do {
	if len(w.second) > 0 {
		d := w.second[0]
		w.second = w.second[1:]
		return d
	}
	s := w.Status()
	router := w.next(len(s.Phases))
	d := api.Do{Router: router, N: w.next(3000)}
	phase := s.Phases[router]
	switch n := w.next(100); {
	case n < 2:
		d.Kind, d.Router = w.next(12)-1, w.next(6)-1
	case n < 3:
		d.Kind = []int{api.DoStop, api.DoDrop, api.DoDrop}[w.next(3)]
	case n < 12:
		d.Kind = api.DoOut
	case n < 70 && phase == api.PhaseIdle:
		d.Kind = api.DoStart
	case n < 70 && phase == api.PhaseConnect:
		d.Kind = api.DoConnect
	case n < 70:
		d.Kind, d.Data = api.DoBytes, w.someBytes(router, phase)
		if at := w.next(len(d.Data) + 1); w.one(4) {
			d.Data, w.rest[router] = d.Data[:at], d.Data[at:]
		}
	case n < 72:
		d.Kind, d.Carries = api.DoCarries, w.someCarries()
	default:
		w.someSecond()
		return w.some()
	}
	return d
}

// someSecond is a tick, most often behind what all sources say.
func (w *wild) someSecond() {
	for source := range w.m.c.Counts {
		if !w.one(10) {
			w.second = append(w.second, api.Do{Kind: api.DoCounts, Counts: w.someReport(source)})
		}
	}
	if !w.one(10) {
		w.second = append(w.second, api.Do{Kind: api.DoCarries, Carries: w.someCarries()})
	}
	w.second = append(w.second, api.Do{Kind: api.DoTick})
}

// someReport is of rates that overload the first interface of a router most often.
func (w *wild) someReport(source int) api.Report {
	w.seqs[0]++
	r := api.Report{Source: source, Seq: w.seqs[0]}
	if w.one(40) {
		r.Seq -= w.next(9)
	}
	for _, p := range w.prefixes() {
		w.totals[p] += max(w.next(120)-40, 0)
		n := w.totals[p]
		if w.huge && w.one(30) {
			n = api.MaxSum * w.next(2)
		}
		if !w.one(20) {
			r.Counts = append(r.Counts, api.Count{P: p, N: n})
		}
	}
	return r
}

func (w *wild) someCarries() api.Carries {
	w.seqs[1]++
	x := api.Carries{Seq: w.seqs[1] - w.next(20)/19}
	for _, o := range w.m.c.Ifaces {
		if w.one(8) {
			x.L = append(x.L, api.Carry{Iface: o.ID, Cap: o.Cap + w.next(100) - 50, Drain: w.one(4)})
		}
	}
	if w.one(40) {
		x.L = append(x.L, api.Carry{Iface: 99})
	}
	return x
}

// told tells d to both, and holds all that can be seen against each other.
func (w *wild) told(d api.Do) {
	w.Helper()
	got, want := w.Step(d), w.m.step(d)
	if !sameDone(got, want) {
		w.Fatalf("%+v: %+v, not %+v", d, got, want)
	}
	if got, want := w.Status(), w.m.status(); !sameStatus(got, want) {
		w.Fatalf("%+v: %+v, not %+v", d, got, want)
	}
	if got, want := w.Demands(), w.m.meter.Demands(); !slices.Equal(got, want) {
		w.Fatalf("%+v: %+v, not %+v", d, got, want)
	}
	for router := range api.MaxRouters {
		if got, want := w.Said(router), w.m.said[router]; !slices.EqualFunc(got, want, sameSay) {
			w.Fatalf("%+v: %+v, not %+v", d, got, want)
		}
	}
	sameRoute := func(a, b api.Route) bool { return a.Key == b.Key && attr.Same(a.A, b.A) }
	for _, p := range w.m.routes.Prefixes() {
		if got, want := w.Routes(p), w.m.routes.Routes(p); !slices.EqualFunc(got, want, sameRoute) {
			w.Fatalf("%+v: %+v, not %+v", d, got, want)
		}
	}
	w.hears(d, got)
	w.follows(d)
}

// hears lets those who listen read what went out; one whose connection is ended begins anew.
func (w *wild) hears(d api.Do, x api.Done) {
	for _, h := range x.L {
		if h.Close {
			w.listeners[h.Router] = listener{stream: frame.New()}
			w.rest[h.Router] = nil
		}
	}
	if len(x.Out) > 0 {
		w.listeners[d.Router].reads(w.T, x.Out, w.m.peers[d.Router].State().Four)
	}
}

// follows holds what can be seen against what follows.
func (w *wild) follows(d api.Do) {
	w.Helper()
	s := w.Status()
	for _, o := range s.Overs {
		if _, is := w.m.routes.Get(o.Key); !is || !w.m.isDetour(o.Key) || o.Until < s.Now {
			w.Fatalf("%+v: %+v", d, o)
		}
	}
	if d.Kind == api.DoTick && !w.m.fresh {
		for router := range s.Phases {
			if len(s.Overs) > 0 || s.Open || len(w.Said(router)) > 0 {
				w.Fatalf("%+v: %+v", d, s)
			}
		}
	}
}

// agrees lets all bytes go out to a router: what they told is what was said to it.
func (w *wild) agrees(router int) {
	w.Helper()
	w.told(api.Do{Kind: api.DoOut, Router: router, N: all})
	if got := w.Said(router); w.m.isUp(router) && !slices.EqualFunc(got, w.listeners[router].told, sameSay) {
		w.Fatalf("%d: %+v, not %+v", router, got, w.listeners[router].told)
	}
}

// run tells so many things.
func (w *wild) run(steps int) {
	w.Helper()
	for range steps {
		w.told(w.some())
		if w.one(25) {
			w.agrees(w.next(w.m.c.Routers))
		}
	}
	for router := range w.m.c.Routers {
		w.agrees(router)
	}
}

// chance makes numbers of a seed.
func chance(seed uint64) func(below int) int {
	return func(below int) int {
		seed = seed*6364136223846793005 + 1442695040888963407
		return int(seed>>33) % below
	}
}

// P26.1 to P26.5, P1, P3: any steps, held against the model; and all that is to happen does.
func TestModel(t *testing.T) {
	var all seen
	for round := range 300 {
		w := newWild(t, chance(uint64(round)))
		w.run(300)
		s := w.m.seen
		all.moved, all.back, all.more, all.over = all.moved+s.moved, all.back+s.back, all.more+s.more, all.over+s.over
		all.expired, all.asked, all.full, all.chained = all.expired+s.expired, all.asked+s.asked, all.full+s.full, all.chained+s.chained
		all.shut, all.up, all.told, all.narrow = all.shut+s.shut, all.up+s.up, all.told+s.told, all.narrow+s.narrow
		all.carried, all.late = all.carried+s.carried, all.late+s.late
	}
	least := min(all.moved, all.back, all.more, all.over, all.expired, all.asked, all.full, all.chained, all.shut, all.up, all.told, all.narrow, all.carried, all.late)
	if least < 15 {
		t.Errorf("%+v", all)
	}
	t.Logf("%+v", all)
}

// P4: what the same steps do is the same, and in whatever pieces bytes come in, sessions and routes are.
func TestAlike(t *testing.T) {
	for round := range 100 {
		w := newWild(t, chance(uint64(round)+1000))
		w.m.c.Queue = api.MaxQueue
		w.m = newModel(w.m.c)
		w.rig = made(t, w.m.c)
		again, pieces := made(t, w.m.c), made(t, w.m.c)
		for range 200 {
			d := w.some()
			if x, y := w.Step(d), again.Step(d); !sameDone(x, y) {
				t.Fatalf("%+v: %+v, not %+v", d, x, y)
			}
			if a, b := w.Status(), again.Status(); !sameStatus(a, b) {
				t.Fatalf("%+v: %+v, not %+v", d, a, b)
			}
			inPieces(w, pieces, d)
			a, b := w.Status(), pieces.Status()
			if !slices.Equal(a.Phases, b.Phases) || a.Routes != b.Routes || a.Refused != b.Refused {
				t.Fatalf("%+v: %+v, not %+v", d, a, b)
			}
		}
	}
}

// inPieces tells d, its bytes in pieces.
func inPieces(w *wild, r *rig, d api.Do) {
	if d.Kind != api.DoBytes || len(d.Data) == 0 {
		r.Step(d)
		return
	}
	for b := d.Data; len(b) > 0; {
		n := 1 + w.next(cmp.Or(min(len(b), []int{1, 20, 4000}[w.next(3)]), 1))
		n = min(n, len(b))
		d.Data, b = b[:n], b[n:]
		r.Step(d)
	}
}

// R1: whatever is told, no call panics, and all that the model says holds.
func FuzzSteps(f *testing.F) {
	for seed := range uint64(8) {
		next := chance(seed)
		var b []byte
		for range 2000 {
			b = append(b, byte(next(256)))
		}
		f.Add(b)
	}
	f.Fuzz(func(t *testing.T, b []byte) {
		at := 0
		b = b[:min(len(b), 1<<12)]
		next := func(below int) int {
			n := 0
			for span := 1; span < below; span *= 256 {
				n *= 256
				if at < len(b) {
					n += int(b[at])
				}
				at++
			}
			return n % below
		}
		w := newWild(t, next)
		for at < len(b) {
			w.told(w.some())
		}
		for router := range w.m.c.Routers {
			w.agrees(router)
		}
	})
}
