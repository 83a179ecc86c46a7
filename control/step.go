package control

import (
	"slices"

	"bypath/addr"
	"bypath/api"
	"bypath/attr"
	"bypath/diff"
	"bypath/gate"
)

// mostBytes is how many bytes come in at most at once.
const mostBytes = 1 << 16

// subFull is the subcode where bytes do not fit into a queue.
const subFull = 8

// What happens to a router's session by what is told, and by a timer that is due.
var (
	toldEvents = [...]int{
		api.DoStart:   api.EvStart,
		api.DoStop:    api.EvStop,
		api.DoConnect: api.EvUp,
		api.DoDrop:    api.EvDown,
	}
	dueEvents = [...]int{
		api.TimerHold:  api.EvHold,
		api.TimerBeat:  api.EvBeat,
		api.TimerRetry: api.EvRetry,
	}
)

// step is a controller that does what it is told, what came of that so far, and the prefixes whose detours may be others since they were asked.
type step struct {
	*Control
	done   api.Done
	others []api.Prefix
}

func (s *step) do(d api.Do) api.Errno {
	switch d.Kind {
	case api.DoStart, api.DoStop, api.DoConnect, api.DoDrop:
		return s.session(d)
	case api.DoBytes:
		return s.bytes(d)
	case api.DoOut:
		return s.out(d)
	case api.DoTick:
		return s.tick()
	case api.DoCounts:
		return s.count(d.Counts)
	case api.DoCarries:
		return s.carry(d.Carries)
	}
	return api.ErrArg
}

func (s *step) session(d api.Do) api.Errno {
	if !s.isRouter(d.Router) {
		return api.ErrArg
	}
	s.happen(d.Router, toldEvents[d.Kind])
	s.settle()
	return api.OK
}

func (s *step) bytes(d api.Do) api.Errno {
	if !s.isRouter(d.Router) || len(d.Data) > mostBytes {
		return api.ErrArg
	}
	s.came(d.Router, s.peers[d.Router].Feed(d.Data, s.now))
	s.settle()
	return api.OK
}

func (s *step) out(d api.Do) api.Errno {
	if !s.isRouter(d.Router) {
		return api.ErrArg
	}
	s.done.Out = s.peers[d.Router].Out(d.N)
	return api.OK
}

func (s *step) count(r api.Report) api.Errno {
	if r.Source < 0 || r.Source >= s.conf.Counts {
		return api.ErrArg
	}
	return s.meter.Take(r, s.now)
}

// carry has detours of all prefixes asked anew: there may be less of each.
func (s *step) carry(x api.Carries) api.Errno {
	if x.Source < 0 || x.Source >= s.conf.Carries {
		return api.ErrArg
	}
	if e := s.caps.Take(x, s.now); e != api.OK {
		return e
	}
	for _, o := range s.overs.All() {
		s.others = append(s.others, o.Key.P)
	}
	s.settle()
	return api.OK
}

func (s *step) tick() api.Errno {
	if s.now == api.MaxSum {
		return api.ErrFull
	}
	s.now++
	for _, k := range s.timers.Due(s.now) {
		s.happen(k.Peer, dueEvents[k.Kind])
	}
	s.overs.Expire(s.now)
	s.ask()
	switch open := s.gate.Step(gate.Fresh(s.conf, s.inputs(), s.now)); {
	case !open:
		s.overs.Clear()
	case s.now%s.conf.Cycle == 0:
		s.cycle()
	}
	s.say()
	return api.OK
}

// inputs is what the controller hangs on, as it is now.
func (s *step) inputs() api.Inputs {
	i := api.Inputs{
		Counts:  stamps(s.conf.Counts, s.meter.Stamp),
		Carries: stamps(s.conf.Carries, s.caps.Stamp),
		Refused: s.routes.Refused(),
	}
	for _, p := range s.peers {
		i.Up = append(i.Up, p.State().Phase == api.PhaseUp)
	}
	return i
}

// stamps are when the first n sources were heard last.
func stamps(n int, of func(source int) (int, bool)) []api.Stamp {
	var l []api.Stamp
	for source := range n {
		at, is := of(source)
		l = append(l, api.Stamp{At: at, Is: is})
	}
	return l
}

func (s *step) happen(router, event int) {
	s.came(router, s.peers[router].Do(event, s.now))
}

// came notes what came of a session, and does what that means to routes, and to what was said.
func (s *step) came(router int, r api.Result) {
	if r.Connect || r.Close || r.Up || r.Down || len(r.Last) > 0 {
		h := api.Heard{Router: router, Connect: r.Connect, Close: r.Close, Up: r.Up, Down: r.Down, Last: r.Last}
		s.done.L = append(s.done.L, h)
	}
	for _, u := range r.Updates {
		changed, _ := s.routes.Apply(router, u)
		s.others = append(s.others, changed...)
	}
	if r.Up || r.Down {
		s.said[router] = nil
	}
	if r.Down {
		s.others = append(s.others, s.routes.Flush(router)...)
	}
}

// settle brings what is in force, and what is said, in line with what was told.
func (s *step) settle() {
	s.ask()
	s.say()
}

// ask lets no detour be in force that is none of its prefix's any more. Detours hang on their prefix's routes and on what interfaces carry alone, so just those need be asked that may be others by these; each once, since it may take long.
func (s *step) ask() {
	slices.SortFunc(s.others, addr.Compare)
	for _, p := range slices.Compact(s.others) {
		o, is := s.overs.Get(p)
		if is && place(s.detours(s.Routes(p)), o.Key) == none {
			s.overs.Delete(p)
		}
	}
	s.others = nil
}

// say tells each router what is in force. The session of one whose queue has no room falls; what is in force may be less then, so it is said again from the first one on. Each time one session fewer is established.
func (s *step) say() {
again:
	l := s.inForce()
	for router := range s.conf.Routers {
		if !s.tell(router, l) {
			full := api.Note{Code: api.NoteCease, Sub: subFull}
			s.came(router, s.peers[router].Close(full, s.now))
			s.ask()
			goto again
		}
	}
}

// inForce is what is to be said of detours in force, in order.
func (s *step) inForce() []api.Say {
	var l []api.Say
	for _, o := range s.overs.All() {
		a, _ := s.routes.Get(o.Key)
		l = append(l, diff.Of(api.Route{Key: o.Key, A: a}, s.conf.Pref))
	}
	return l
}

// tell lets l be said to a router, as far as it may be told there, if its session is established. It is false, if the queue has no room for that. Most often just that was said already, which is seen sooner than updates are made.
func (s *step) tell(router int, l []api.Say) bool {
	p := s.peers[router]
	state := p.State()
	if state.Phase != api.PhaseUp {
		return true
	}
	is := slices.DeleteFunc(slices.Clone(l), func(x api.Say) bool { return attr.Check(x.A, state.Four) != api.OK })
	if slices.EqualFunc(s.said[router], is, same) {
		return true
	}
	updates, _ := diff.Updates(s.said[router], is, state.Four)
	for _, u := range updates {
		if p.Put(u) != api.OK {
			return false
		}
	}
	s.said[router] = is
	return true
}

func same(a, b api.Say) bool { return a.P == b.P && attr.Same(a.A, b.A) }
