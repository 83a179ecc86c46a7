package control_test

import (
	"reflect"
	"slices"
	"testing"

	"bypath/addr"
	"bypath/api"
	"bypath/attr"
	"bypath/conf"
	"bypath/control"
	"bypath/diff"
	"bypath/frame"
	"bypath/note"
	"bypath/open"
	"bypath/update"
)

// all is as many bytes as may wait.
const all = api.MaxQueue

// prefix is the prefix of a text.
func prefix(s string) api.Prefix {
	p, e := addr.Parse(s)
	if e != api.OK {
		panic(s)
	}
	return p
}

// address is the address of a text.
func address(s string) uint32 {
	x, e := addr.Address(s)
	if e != api.OK {
		panic(s)
	}
	return x
}

// settings are those of so many routers, each with three interfaces: of the router 0 10.0.0.0/8 by 1, 11.0.0.0/8 by 2, 12.0.0.0/8 by 3; of the router 1 by 11, 12, 13, and so on. The first of each carries 100, others 200. A cycle is each second.
func settings(routers int) api.Conf {
	c := conf.First()
	c.Routers, c.Hold = routers, 0
	c.Cycle, c.Warm, c.Stale, c.Expire = 1, 1, 5, 20
	for router := range routers {
		for i := range 3 {
			x := api.Iface{ID: 10*router + i + 1, Router: router, Net: addr.Make(uint32(10+i)<<24, 8), Cap: 200}
			if i == 0 {
				x.Cap = 100
			}
			c.Ifaces = append(c.Ifaces, x)
		}
	}
	return c
}

// rig is a controller that is told things, and what was counted so far.
type rig struct {
	*testing.T
	*control.Control
	seq    int
	totals map[api.Prefix]int
}

func made(t *testing.T, c api.Conf) *rig {
	t.Helper()
	z, e := control.New(c)
	if e != api.OK || z == nil {
		t.Fatal(e)
	}
	return &rig{T: t, Control: z, totals: map[api.Prefix]int{}}
}

// do tells what must be done.
func (r *rig) do(d api.Do) api.Done {
	r.Helper()
	x := r.Step(d)
	if x.E != api.OK {
		r.Fatal(d.Kind, x.E)
	}
	return x
}

// refuses tells what must not be done: nothing is another thing then.
func (r *rig) refuses(d api.Do, e api.Errno) {
	r.Helper()
	before := r.seen()
	if x := r.Step(d); !sameDone(x, api.Done{E: e}) {
		r.Errorf("kind %d: %+v, not %d", d.Kind, x, e)
	}
	if now := r.seen(); !reflect.DeepEqual(now, before) {
		r.Errorf("kind %d: %+v, not %+v", d.Kind, now, before)
	}
}

// seen is all that can be seen of a controller.
func (r *rig) seen() []any {
	l := []any{r.Status(), r.Demands()}
	for router := range api.MaxRouters {
		l = append(l, r.Said(router))
	}
	for p := range r.totals {
		l = append(l, r.Routes(p))
	}
	return l
}

// theirs is what a router says of itself: it gives several paths, has AS numbers of 4 bytes, and holds no session.
func theirs(router int) api.Open {
	return api.Open{AS: 65000, ID: uint32(router) + 1, Four: true, Paths: 2}
}

// sent is messages' bytes.
func sent(l ...api.Message) []byte {
	var out []byte
	for _, m := range l {
		b, e := frame.Put(m)
		if e != api.OK {
			panic(e)
		}
		out = append(out, b...)
	}
	return out
}

func opened(o api.Open) api.Message {
	m, e := open.Message(o)
	if e != api.OK {
		panic(e)
	}
	return m
}

func kept() api.Message { return api.Message{Type: api.TypeKeep} }

// noted is a note's bytes.
func noted(code, sub int, data ...byte) []byte {
	m, e := note.Put(api.Note{Code: code, Sub: sub, Data: data})
	if e != api.OK {
		panic(e)
	}
	return sent(m)
}

// updated is an update's message, of a session of several paths.
func updated(u api.Update) api.Message {
	m, e := update.Put(u, true, true)
	if e != api.OK {
		panic(e)
	}
	return m
}

// path is attributes by a next hop, of one AS, with a preference.
func path(next string, pref int) api.Attrs {
	return api.Attrs{Path: []api.Segment{{AS: []int{7}}}, Next: address(next), Med: -1, Pref: pref}
}

// comes tells one path of a prefix.
func comes(p string, id int, a api.Attrs) api.Message {
	return updated(api.Update{Routes: []api.Nlri{{ID: id, P: prefix(p)}}, A: a})
}

// goes tells that one path of a prefix is there no more.
func goes(p string, id int) api.Message {
	return updated(api.Update{Gone: []api.Nlri{{ID: id, P: prefix(p)}}})
}

// says lets a router's messages come in.
func (r *rig) says(router int, l ...api.Message) api.Done {
	r.Helper()
	return r.do(api.Do{Kind: api.DoBytes, Router: router, Data: sent(l...)})
}

// up brings a router's session up, by what it says of itself.
func (r *rig) up(router int, o api.Open) {
	r.Helper()
	if r.Status().Phases[router] == api.PhaseIdle {
		r.do(api.Do{Kind: api.DoStart, Router: router})
	}
	r.do(api.Do{Kind: api.DoConnect, Router: router})
	x := r.says(router, opened(o), kept())
	r.heard(x, api.Heard{Router: router, Up: true})
	if r.Status().Phases[router] != api.PhaseUp {
		r.Fatal(r.Status())
	}
}

// heard holds what came of sessions against what must have.
func (r *rig) heard(x api.Done, l ...api.Heard) {
	r.Helper()
	if !slices.EqualFunc(x.L, l, sameHeard) {
		r.Errorf("%+v, not %+v", x.L, l)
	}
}

// flow reports rates, by the next number of the source 0, and lets a second be over.
func (r *rig) flow(l ...api.Count) api.Done {
	r.Helper()
	r.seq++
	var counts []api.Count
	for _, c := range l {
		r.totals[c.P] += c.N
		counts = append(counts, api.Count{P: c.P, N: r.totals[c.P]})
	}
	r.do(api.Do{Kind: api.DoCounts, Counts: api.Report{Seq: r.seq, Counts: counts}})
	return r.do(api.Do{Kind: api.DoTick})
}

// rate is how much goes to a prefix each second.
func rate(p string, n int) api.Count { return api.Count{P: prefix(p), N: n} }

// over is a detour in force.
func over(router int, p string, id, until int) api.Over {
	return api.Over{Key: api.Key{Router: router, P: prefix(p), ID: id}, Until: until}
}

// forces holds what is in force against what must be.
func (r *rig) forces(l ...api.Over) {
	r.Helper()
	if got := r.Status().Overs; !slices.Equal(got, l) {
		r.Errorf("%+v, not %+v", got, l)
	}
}

// say is what is told of a prefix, of a route of such attributes.
func say(p string, a api.Attrs, pref int) api.Say {
	return diff.Of(api.Route{Key: api.Key{P: prefix(p)}, A: a}, pref)
}

// said holds what was said to a router against what must have been.
func (r *rig) said(router int, l ...api.Say) {
	r.Helper()
	if got := r.Said(router); !slices.EqualFunc(got, l, sameSay) {
		r.Errorf("%d: %+v, not %+v", router, got, l)
	}
}

// out lets all bytes go out, and gives their messages.
func (r *rig) out(router int) []api.Message {
	r.Helper()
	s := frame.New()
	s.Feed(r.do(api.Do{Kind: api.DoOut, Router: router, N: all}).Out)
	var l []api.Message
	for {
		m, is, bad := s.Next()
		if bad.Code != 0 || !is && s.Len() > 0 {
			r.Fatal(bad, s.Len())
		}
		if !is {
			return l
		}
		l = append(l, m)
	}
}

// outs are the updates that go out, all other messages passed over.
func (r *rig) outs(router int, four bool) []api.Update {
	r.Helper()
	var l []api.Update
	for _, m := range r.out(router) {
		if m.Type != api.TypeUpdate {
			continue
		}
		u, bad := update.Get(m.Body, four, false)
		if bad.Code != 0 || u.Soft {
			r.Fatal(bad, u)
		}
		l = append(l, u)
	}
	return l
}

// updates holds the updates that go out against those that must.
func (r *rig) updates(router int, l ...api.Update) {
	r.Helper()
	if got := r.outs(router, true); !slices.EqualFunc(got, l, update.Same) {
		r.Errorf("%d: %+v, not %+v", router, got, l)
	}
}

func sameHeard(a, b api.Heard) bool {
	return a.Router == b.Router && a.Connect == b.Connect && a.Close == b.Close && a.Up == b.Up && a.Down == b.Down && slices.Equal(a.Last, b.Last)
}

func sameSay(a, b api.Say) bool { return a.P == b.P && attr.Same(a.A, b.A) }

func samePlan(a, b api.Plan) bool {
	return slices.Equal(a.At, b.At) && a.Moves == b.Moves && a.More == b.More && a.Over == b.Over
}

func sameDone(a, b api.Done) bool {
	return a.E == b.E && slices.Equal(a.Out, b.Out) && slices.EqualFunc(a.L, b.L, sameHeard) && a.Cycle == b.Cycle && samePlan(a.Plan, b.Plan)
}

func sameStatus(a, b api.Status) bool {
	return a.Now == b.Now && slices.Equal(a.Phases, b.Phases) && a.Routes == b.Routes && a.Refused == b.Refused && a.Open == b.Open && slices.Equal(a.Overs, b.Overs)
}

// Of the prefix that is detoured in most tests: its way by the interface 1, and the one by 2.
const (
	twenty = "20.0.0.0/8"
	home   = "10.0.0.9"
	away   = "11.0.0.9"
)

// detoured is a controller of settings with a detour of twenty in force, by the route of the ID 2 of the router 0: 95 goes to it. Nothing waits to go out.
func detoured(t *testing.T, c api.Conf) *rig {
	t.Helper()
	r := made(t, c)
	for router := range c.Routers {
		r.up(router, theirs(router))
	}
	r.says(0, comes(twenty, 1, path(home, 100)), comes(twenty, 2, path(away, 90)))
	r.flow(rate(twenty, 95))
	r.forces()
	x := r.flow(rate(twenty, 95))
	if !x.Cycle || !samePlan(x.Plan, api.Plan{At: []int{0}, Moves: 1}) {
		t.Fatal(x)
	}
	r.forces(over(0, twenty, 2, 2+c.Expire))
	for router := range c.Routers {
		r.said(router, say(twenty, path(away, 90), c.Pref))
		r.updates(router, api.Update{Routes: []api.Nlri{{P: prefix(twenty)}}, A: say(twenty, path(away, 90), c.Pref).A})
	}
	return r
}
