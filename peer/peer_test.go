package peer_test

import (
	"bytes"
	"math"
	"slices"
	"testing"

	"bypath/api"
	"bypath/frame"
	"bypath/fsm"
	"bypath/note"
	"bypath/open"
	"bypath/peer"
	"bypath/timer"
	"bypath/update"
)

// number is the peer's in these tests.
const number = 7

func local() api.Local {
	return api.Local{Open: api.Open{AS: 65000, Hold: 90, ID: 1, Four: true, Paths: 1}, Retry: 30}
}

func theirs() api.Open { return api.Open{AS: 65000, Hold: 60, ID: 2, Four: true, Paths: 2} }

func made(t *testing.T, room int) (*peer.Peer, *timer.Timers) {
	t.Helper()
	timers := timer.New()
	p, e := peer.New(number, local(), room, timers)
	if e != api.OK || p == nil {
		t.Fatal(room, e)
	}
	return p, timers
}

// sent is a message's bytes.
func sent(t *testing.T, m api.Message, e api.Errno) []byte {
	t.Helper()
	b, wrong := frame.Put(m)
	if e != api.OK || wrong != api.OK {
		t.Fatal(m.Type, e, wrong)
	}
	return b
}

func opened(t *testing.T, o api.Open) []byte {
	t.Helper()
	m, e := open.Message(o)
	return sent(t, m, e)
}

func kept(t *testing.T) []byte {
	t.Helper()
	return sent(t, api.Message{Type: api.TypeKeep}, api.OK)
}

func noted(t *testing.T, code, sub int, data ...byte) []byte {
	t.Helper()
	m, e := note.Put(api.Note{Code: code, Sub: sub, Data: data})
	return sent(t, m, e)
}

func updated(t *testing.T, u api.Update, four, paths bool) []byte {
	t.Helper()
	m, e := update.Put(u, four, paths)
	return sent(t, m, e)
}

// routes is an update of n routes, and what goes.
func routes(n int) api.Update {
	u := api.Update{A: api.Attrs{Path: []api.Segment{{AS: []int{65000, 70000}}}, Next: 9, Med: -1, Pref: -1}}
	for i := range n {
		u.Routes = append(u.Routes, api.Nlri{ID: 3, P: api.Prefix{Addr: 10<<24 + uint32(i)<<8, Len: 24}})
		u.Gone = append(u.Gone, api.Nlri{ID: 4, P: api.Prefix{Addr: 11<<24 + uint32(i)<<8, Len: 24}})
	}
	return u
}

// single is such an update where one path of each prefix is told.
func single(n int) api.Update {
	u := routes(n)
	for i := range n {
		u.Routes[i].ID, u.Gone[i].ID = 0, 0
	}
	return u
}

// to brings a new peer's session to a phase, at the moment 100, without bytes that wait.
func to(t *testing.T, phase int) (*peer.Peer, *timer.Timers) {
	t.Helper()
	p, timers := made(t, api.MaxQueue)
	for _, step := range []func() api.Result{
		func() api.Result { return p.Do(api.EvStart, 100) },
		func() api.Result { return p.Do(api.EvUp, 100) },
		func() api.Result { return p.Feed(opened(t, theirs()), 100) },
		func() api.Result { return p.Feed(kept(t), 100) },
	} {
		if p.State().Phase < phase {
			step()
		}
	}
	p.Out(api.MaxQueue)
	if p.State().Phase != phase {
		t.Fatal(p.State())
	}
	return p, timers
}

// same tells whether all parts of two results are.
func same(a, b api.Result) bool {
	return a.Connect == b.Connect && a.Close == b.Close && a.Up == b.Up && a.Down == b.Down &&
		bytes.Equal(a.Last, b.Last) && slices.EqualFunc(a.Updates, b.Updates, update.Same)
}

func comes(t *testing.T, got, want api.Result) {
	t.Helper()
	if !same(got, want) {
		t.Errorf("%+v, not %+v", got, want)
	}
}

// waits holds the timers against the moments of hold, beat and retry, below 0: none.
func waits(t *testing.T, timers *timer.Timers, moments ...int) {
	t.Helper()
	n := 0
	for i, want := range moments {
		at, is := timers.At(api.Timer{Peer: number, Kind: api.TimerHold + i})
		if is != (want >= 0) || is && at != want {
			t.Errorf("timer %d: %d %v, not %d", i+1, at, is, want)
		}
		if is {
			n++
		}
	}
	if timers.Len() != n {
		t.Error("timers", timers.Len(), n)
	}
}

// messages are those of whole bytes.
func messages(t *testing.T, b []byte) []api.Message {
	t.Helper()
	var l []api.Message
	for len(b) > 0 {
		_, n, bad := frame.Head(b)
		if bad.Code != 0 || n == 0 || n > len(b) {
			t.Fatal(bad, n, len(b))
		}
		l = append(l, api.Message{Type: int(b[18]), Body: b[api.HeadSize:n]})
		b = b[n:]
	}
	return l
}

// P12.1: what New refuses, and in which order.
func TestNew(t *testing.T) {
	timers := timer.New()
	for _, room := range []int{4096, 4097, 65535, 65536} {
		p, e := peer.New(-5, local(), room, timers)
		if e != api.OK || p.Number() != -5 || p.Waiting() != 0 || p.State() != (api.State{Phase: api.PhaseIdle}) {
			t.Error(room, e)
		}
	}
	for _, room := range []int{0, -1, 4095, 65537, math.MinInt, math.MaxInt, 4096 + 1<<32} {
		if p, e := peer.New(1, local(), room, timers); p != nil || e != api.ErrArg {
			t.Error(room, p, e)
		}
	}
	if p, e := peer.New(1, local(), 4096, nil); p != nil || e != api.ErrArg {
		t.Error(p, e)
	}
	wrong, late := local(), local()
	wrong.Open.ID, late.Retry = 0, 0
	for _, room := range []int{0, 4096} {
		if p, e := peer.New(1, wrong, room, nil); p != nil || e != api.ErrOpen {
			t.Error(room, p, e)
		}
		if p, e := peer.New(1, late, room, nil); p != nil || e != api.ErrArg {
			t.Error(room, p, e)
		}
	}
	if timers.Len() != 0 {
		t.Error(timers.Len())
	}
}

// P12.1: the document's example, and the whole's first.
func TestExample(t *testing.T) {
	p, _ := made(t, 4096)
	p.Do(api.EvStart, 0)
	p.Do(api.EvUp, 0)
	if b := opened(t, local().Open); p.Waiting() != len(b) || !bytes.Equal(p.Out(4096), b) || p.Waiting() != 0 {
		t.Error(p.Waiting())
	}
}

// P12.1: a session from its start to its end: what is told, which timers are set, what goes out.
func TestSession(t *testing.T) {
	p, timers := made(t, 4096)
	comes(t, p.Do(api.EvUp, 99), api.Result{})
	waits(t, timers, -1, -1, -1)
	comes(t, p.Do(api.EvStart, 100), api.Result{Connect: true})
	waits(t, timers, -1, -1, 130)
	comes(t, p.Do(api.EvRetry, 130), api.Result{Connect: true})
	waits(t, timers, -1, -1, 160)
	comes(t, p.Do(api.EvDown, 131), api.Result{})
	waits(t, timers, -1, -1, 161)
	comes(t, p.Do(api.EvUp, 140), api.Result{})
	waits(t, timers, 380, -1, -1)
	comes(t, p.Feed(opened(t, theirs()), 150), api.Result{})
	waits(t, timers, 210, 170, -1)
	if p.State() != (api.State{Phase: api.PhaseConfirm, Hold: 60, Four: true, Paths: true, ID: 2}) {
		t.Error(p.State())
	}
	comes(t, p.Do(api.EvBeat, 170), api.Result{})
	waits(t, timers, 210, 190, -1)
	comes(t, p.Feed(kept(t), 171), api.Result{Up: true})
	waits(t, timers, 231, 190, -1)
	comes(t, p.Feed(updated(t, routes(2), true, true), 180), api.Result{Updates: []api.Update{routes(2)}})
	waits(t, timers, 240, 190, -1)
	if e := p.Put(single(1)); e != api.OK {
		t.Error(e)
	}
	goes(t, p)
	comes(t, p.Do(api.EvHold, 240), api.Result{Close: true, Down: true, Last: noted(t, 4, 0)})
	waits(t, timers, -1, -1, 270)
	comes(t, p.Do(api.EvStop, 241), api.Result{Close: true})
	waits(t, timers, -1, -1, -1)
	if p.State() != (api.State{Phase: api.PhaseIdle}) || p.Number() != number {
		t.Error(p.State())
	}
	comes(t, p.Do(api.EvStop, 242), api.Result{})
}

// goes holds what waits to go out in TestSession against what was put.
func goes(t *testing.T, p *peer.Peer) {
	t.Helper()
	var want []byte
	want = append(want, opened(t, local().Open)...)
	want = append(want, kept(t)...)
	want = append(want, kept(t)...)
	want = append(want, updated(t, single(1), true, false)...)
	if p.Waiting() != len(want) {
		t.Error(p.Waiting(), len(want))
	}
	var got []byte
	for p.Waiting() > 0 {
		got = append(got, p.Out(5)...)
	}
	if !bytes.Equal(got, want) || p.Out(5) != nil || p.Out(0) != nil || p.Out(-1) != nil {
		t.Error(got, want)
	}
}

// P12.1: Do knows some kinds alone, and no moment below 0; nothing has changed then.
func TestDoNothing(t *testing.T) {
	for phase := api.PhaseIdle; phase <= api.PhaseUp; phase++ {
		p, timers := to(t, phase)
		state, n := p.State(), timers.Len()
		for _, kind := range []int{api.EvOpen, api.EvKeep, api.EvUpdate, api.EvNote, api.EvBad, 0, -1, 13, math.MinInt, math.MaxInt, api.EvStop + 1<<32} {
			comes(t, p.Do(kind, 200), api.Result{})
		}
		for kind := api.EvStart; kind <= api.EvRetry; kind++ {
			comes(t, p.Do(kind, -1), api.Result{})
			comes(t, p.Do(kind, math.MinInt), api.Result{})
		}
		comes(t, p.Feed(opened(t, theirs()), -1), api.Result{})
		comes(t, p.Feed(make([]byte, 65537), 200), api.Result{})
		comes(t, p.Feed(nil, 200), api.Result{})
		if p.State() != state || timers.Len() != n || p.Waiting() != 0 {
			t.Error(phase, p.State(), timers.Len(), p.Waiting())
		}
	}
}

// P12.1: moments are capped.
func TestMoments(t *testing.T) {
	for _, x := range []struct{ now, hold, beat int }{
		{0, 60, 20}, {api.MaxSum - 60, api.MaxSum, api.MaxSum - 40}, {api.MaxSum - 21, api.MaxSum, api.MaxSum - 1},
		{api.MaxSum, api.MaxSum, api.MaxSum}, {math.MaxInt, api.MaxSum, api.MaxSum},
	} {
		p, timers := made(t, 4096)
		p.Do(api.EvStart, x.now)
		p.Do(api.EvUp, x.now)
		p.Feed(opened(t, theirs()), x.now)
		waits(t, timers, x.hold, x.beat, -1)
	}
}

// P12.1: Close makes a session fall with a note, whatever that is; below PhaseSent nothing comes of it.
func TestClose(t *testing.T) {
	for phase := api.PhaseIdle; phase <= api.PhaseUp; phase++ {
		for _, x := range []struct {
			n    api.Note
			last []byte
		}{
			{api.Note{Code: 6, Sub: 8}, noted(t, 6, 8)},
			{api.Note{Code: 1, Sub: 3, Data: []byte{9}}, noted(t, 1, 3, 9)},
			{api.Note{Code: 6, Data: make([]byte, 4075)}, noted(t, 6, 0, make([]byte, 4075)...)},
			{api.Note{}, nil},
			{api.Note{Sub: 8}, nil},
			{api.Note{Code: 7}, nil},
			{api.Note{Code: -1}, nil},
			{api.Note{Code: 6, Sub: 256}, nil},
			{api.Note{Code: 6, Data: make([]byte, 4076)}, nil},
		} {
			p, timers := to(t, phase)
			state := p.State()
			if phase < api.PhaseSent {
				comes(t, p.Close(x.n, 200), api.Result{})
				if p.State() != state {
					t.Error(phase, p.State())
				}
				continue
			}
			comes(t, p.Close(x.n, 200), api.Result{Close: true, Down: phase == api.PhaseUp, Last: x.last})
			waits(t, timers, -1, -1, 230)
			if p.State() != (api.State{Phase: api.PhaseConnect}) {
				t.Error(phase, p.State())
			}
		}
	}
}

// P12.1: a moment below 0 of Close is as 0, since the chapter does not pass it over.
func TestCloseEarly(t *testing.T) {
	p, timers := to(t, api.PhaseUp)
	comes(t, p.Close(api.Note{Code: 6, Sub: 8}, -5), api.Result{Close: true, Down: true, Last: noted(t, 6, 8)})
	waits(t, timers, -1, -1, 30)
}

// P12.1: each message of each phase, and what is wrong with one.
func TestMessages(t *testing.T) {
	badOpen := sent(t, api.Message{Type: api.TypeOpen, Body: []byte{4, 1, 1, 0, 0, 0, 0, 0, 0, 0}}, api.OK)
	badUpdate := sent(t, api.Message{Type: api.TypeUpdate, Body: []byte{0, 9, 0, 0}}, api.OK)
	otherAS := theirs()
	otherAS.AS = 65001
	plain := updated(t, api.Update{}, true, true)
	fell := func(phase, code, sub int, data ...byte) api.Result {
		r := api.Result{Close: true, Down: phase == api.PhaseUp}
		if code != 0 {
			r.Last = noted(t, code, sub, data...)
		}
		return r
	}
	for phase := api.PhaseIdle; phase <= api.PhaseUp; phase++ {
		want := make([]api.Result, 8)
		state := phase - api.PhaseSent + 1
		if phase >= api.PhaseSent {
			odd := fell(phase, 5, state)
			want = []api.Result{odd, odd, odd, fell(phase, 2, 3), odd, fell(phase, 0, 0), fell(phase, 0, 0), fell(phase, 1, 1)}
		}
		switch phase {
		case api.PhaseSent:
			want[0], want[4] = api.Result{}, fell(phase, 2, 2)
		case api.PhaseConfirm:
			want[1] = api.Result{Up: true}
		case api.PhaseUp:
			want[1], want[2] = api.Result{}, api.Result{Updates: make([]api.Update, 1)}
		}
		for i, b := range [][]byte{
			opened(t, theirs()), kept(t), plain, badOpen, opened(t, otherAS), noted(t, 6, 2),
			sent(t, api.Message{Type: api.TypeNote, Body: []byte{0, 0}}, api.OK), make([]byte, 19),
		} {
			p, timers := to(t, phase)
			comes(t, p.Feed(b, 200), want[i])
			if want[i].Close {
				waits(t, timers, -1, -1, 230)
			}
		}
		p, _ := to(t, phase)
		switch r := p.Feed(badUpdate, 200); {
		case phase < api.PhaseSent:
			comes(t, r, api.Result{})
		case phase < api.PhaseUp:
			comes(t, r, fell(phase, 5, state))
		default:
			comes(t, r, fell(phase, 3, 1))
		}
	}
}

// P12.1: heads that are wrong, with their data, behind messages that are not.
func TestHeads(t *testing.T) {
	for _, x := range []struct {
		at int
		v  byte
		b  []byte
	}{
		{0, 254, noted(t, 1, 1)}, {15, 0, noted(t, 1, 1)}, {18, 5, noted(t, 1, 3, 5)}, {18, 0, noted(t, 1, 3, 0)},
		{17, 20, noted(t, 1, 2, 0, 20)}, {17, 18, noted(t, 1, 2, 0, 18)}, {16, 17, noted(t, 1, 2, 17, 19)},
	} {
		p, _ := to(t, api.PhaseUp)
		wrong := kept(t)
		wrong[x.at] = x.v
		u := updated(t, routes(1), true, true)
		b := slices.Concat(kept(t), u, wrong, u)
		comes(t, p.Feed(b, 200), api.Result{Close: true, Down: true, Last: x.b, Updates: []api.Update{routes(1)}})
		comes(t, p.Feed(u, 200), api.Result{})
	}
}

// P12.1: updates are read as the state says.
func TestReads(t *testing.T) {
	for way := range 4 {
		four, paths := way&1 != 0, way&2 != 0
		o := theirs()
		o.Four = four
		if !paths {
			o.Paths = 1
		}
		p, _ := made(t, api.MaxQueue)
		p.Do(api.EvStart, 1)
		p.Do(api.EvUp, 1)
		u := single(3)
		if paths {
			u = routes(3)
		}
		if !four {
			u.A.Path[0].AS[1] = 4200
		}
		r := p.Feed(slices.Concat(opened(t, o), kept(t), updated(t, u, four, paths)), 2)
		comes(t, r, api.Result{Up: true, Updates: []api.Update{u}})
	}
}

// P12.1: an update whose attributes may not be is told, and is soft; the session goes on.
func TestSoft(t *testing.T) {
	p, _ := to(t, api.PhaseUp)
	m, _ := update.Put(api.Update{Routes: routes(1).Routes, A: routes(1).A}, true, true)
	m.Body[6] = 9 // of the origin: how many bytes
	b := sent(t, m, api.OK)
	r := p.Feed(b, 200)
	if len(r.Updates) != 1 || !r.Updates[0].Soft || r.Close || len(r.Updates[0].Gone) != 1 || len(r.Updates[0].Routes) != 0 {
		t.Error(r)
	}
}

// P12.1: bytes that came in belong to one connection alone.
func TestNewStream(t *testing.T) {
	p, _ := to(t, api.PhaseUp)
	comes(t, p.Feed(opened(t, theirs())[:30], 200), api.Result{})
	comes(t, p.Do(api.EvDown, 201), api.Result{Close: true, Down: true})
	comes(t, p.Feed(opened(t, theirs())[:30], 202), api.Result{})
	p.Do(api.EvUp, 203)
	comes(t, p.Feed(slices.Concat(opened(t, theirs()), kept(t)), 204), api.Result{Up: true})
	comes(t, p.Feed(make([]byte, 19), 205), api.Result{Close: true, Down: true, Last: noted(t, 1, 1)})
	p.Do(api.EvUp, 206)
	comes(t, p.Feed(slices.Concat(opened(t, theirs()), kept(t)), 207), api.Result{Up: true})
}

// P12.1: where a Keep does not fit into the queue, the session falls, with what its timers were waiting for, in PhaseConfirm as in PhaseUp.
func TestFull(t *testing.T) {
	for phase := api.PhaseConfirm; phase <= api.PhaseUp; phase++ {
		p, timers := made(t, 4096)
		p.Do(api.EvStart, 100)
		p.Do(api.EvUp, 100)
		p.Feed(opened(t, theirs()), 100)
		if phase == api.PhaseUp {
			p.Feed(kept(t), 100)
		}
		p.Out(4096)
		for i := range 4096 / 19 {
			comes(t, p.Do(api.EvBeat, 100+i), api.Result{})
		}
		p.Out(18) // 11 bytes and these: room for one more
		comes(t, p.Do(api.EvBeat, 400), api.Result{})
		full := p.Waiting()
		comes(t, p.Do(api.EvBeat, 500), api.Result{Close: true, Down: phase == api.PhaseUp, Last: noted(t, 6, 8)})
		waits(t, timers, -1, -1, 530)
		if full != 215*19-18+19 || p.Waiting() != 0 || p.State() != (api.State{Phase: api.PhaseConnect}) {
			t.Error(full, p.Waiting(), p.State())
		}
	}
}

// P12.1: timers that others fill up are waited for by nobody else; the session goes on.
func TestTimersFull(t *testing.T) {
	p, timers := made(t, 4096)
	for i := range api.MaxTimers {
		timers.Set(api.Timer{Peer: number + 1, Kind: i}, 1)
	}
	comes(t, p.Do(api.EvStart, 100), api.Result{Connect: true})
	if _, is := timers.At(api.Timer{Peer: number, Kind: api.TimerRetry}); is || timers.Len() != api.MaxTimers {
		t.Error(is, timers.Len())
	}
	p.Do(api.EvUp, 100)
	comes(t, p.Feed(slices.Concat(opened(t, theirs()), kept(t)), 100), api.Result{Up: true})
}

// P12.2: what Put refuses, and in which order.
func TestPut(t *testing.T) {
	soft := api.Update{Soft: true}
	for phase := api.PhaseIdle; phase < api.PhaseUp; phase++ {
		p, _ := to(t, phase)
		if p.Put(api.Update{}) != api.ErrArg || p.Put(soft) != api.ErrArg || p.Waiting() != 0 {
			t.Error(phase)
		}
	}
	p, _ := to(t, api.PhaseUp)
	u := api.Update{Gone: make([]api.Nlri, 500)}
	size := len(updated(t, u, true, false))
	for p.Waiting()+size <= api.MaxQueue {
		if e := p.Put(u); e != api.OK {
			t.Fatal(e)
		}
	}
	n := p.Waiting()
	if p.Put(u) != api.ErrFull || p.Put(soft) != api.ErrUpdate || p.Put(api.Update{Gone: make([]api.Nlri, api.MaxNlris+1)}) != api.ErrUpdate || p.Waiting() != n {
		t.Error(n, p.Waiting())
	}
	if p.State().Phase != api.PhaseUp || len(messages(t, p.Out(math.MaxInt))) != n/size {
		t.Error(p.State())
	}
}

// P12.2: AS numbers go out as the state says, and one path of each prefix, even where several are told to us.
func TestPutAs(t *testing.T) {
	for way := range 2 {
		four := way == 1
		o := theirs()
		o.Four, o.Paths = four, 3
		p, _ := made(t, api.MaxQueue)
		p.Do(api.EvStart, 1)
		p.Do(api.EvUp, 1)
		p.Feed(slices.Concat(opened(t, o), kept(t)), 1)
		p.Out(api.MaxQueue)
		u := single(2)
		if !four && p.Put(u) != api.ErrUpdate {
			t.Error("AS 70000 in 2 bytes")
		}
		u.A.Path[0].AS[1] = 4200
		if e := p.Put(u); e != api.OK {
			t.Fatal(e)
		}
		if u := routes(1); p.Put(api.Update{Gone: u.Gone}) != api.ErrUpdate {
			t.Error("an ID")
		}
		l := messages(t, p.Out(api.MaxQueue))
		if got, bad := update.Get(l[0].Body, four, false); len(l) != 1 || bad.Code != 0 || !update.Same(got, u) {
			t.Error(got, bad)
		}
	}
}

// P12.2: of a nil Peer, and of one that New did not make.
func TestNil(t *testing.T) {
	var none *peer.Peer
	for _, p := range []*peer.Peer{none, {}} {
		for kind := api.EvStart; kind <= api.EvRetry; kind++ {
			comes(t, p.Do(kind, 1), api.Result{})
		}
		comes(t, p.Feed(opened(t, theirs()), 1), api.Result{})
		comes(t, p.Close(api.Note{Code: 6}, 1), api.Result{})
		if p.Put(api.Update{}) != api.ErrClosed || p.Put(api.Update{Soft: true}) != api.ErrClosed {
			t.Error("Put")
		}
		if p.Out(9) != nil || p.Waiting() != 0 || p.State() != (api.State{}) || p.Number() != 0 {
			t.Error(p.Waiting(), p.State(), p.Number())
		}
	}
}

// R3: what is handed in is neither changed nor kept, and what is answered is nobody's.
func TestShares(t *testing.T) {
	p, _ := to(t, api.PhaseUp)
	u := updated(t, routes(2), true, true)
	b := append(make([]byte, 0, 2*len(u)), u...)
	if r := p.Feed(b[:40], 1); !same(r, api.Result{}) {
		t.Error(r)
	}
	clear(b[:40])
	r := p.Feed(b[40:], 1)
	if !bytes.Equal(b[40:], u[40:]) || len(bytes.Trim(b[len(b):cap(b)], "\x00")) > 0 {
		t.Error("changed")
	}
	clear(b)
	comes(t, r, api.Result{Updates: []api.Update{routes(2)}})
	e := p.Put(single(1))
	out := p.Out(10)
	clear(out)
	n := api.Note{Code: 6, Sub: 8, Data: []byte{1, 2}}
	r = p.Close(n, 1)
	r.Last[21] = 9
	if e != api.OK || n.Data[0] != 1 {
		t.Error(e, n)
	}
}

// P12.1: peers that share timers have their own ones by their numbers.
func TestShareTimers(t *testing.T) {
	timers := timer.New()
	a, _ := peer.New(1, local(), 4096, timers)
	b, _ := peer.New(2, local(), 4096, timers)
	a.Do(api.EvStart, 10)
	b.Do(api.EvStart, 20)
	a.Do(api.EvUp, 15)
	if due := timers.Due(1000); !slices.Equal(due, []api.Timer{{Peer: 2, Kind: api.TimerRetry}, {Peer: 1, Kind: api.TimerHold}}) {
		t.Error(due)
	}
}

func next(seed *uint64) int {
	*seed = *seed*6364136223846793005 + 1442695040888963407
	return int(*seed >> 33)
}

// talk is what the other one may say: a session, updates, and at times what is wrong.
func talk(t *testing.T, seed *uint64) []byte {
	t.Helper()
	b := slices.Concat(opened(t, theirs()), kept(t))
	for range next(seed) % 40 {
		switch k := next(seed) % 30; {
		case k < 10:
			b = append(b, kept(t)...)
		case k < 28:
			b = append(b, updated(t, routes(1+next(seed)%150), true, true)...)
		case k == 28:
			b = append(b, opened(t, theirs())...)
		default:
			b = append(b, byte(next(seed)))
		}
	}
	return b[:min(len(b), 65536)]
}

// into adds what came of one piece to what came of those ahead of it.
func into(all *api.Result, r api.Result) {
	all.Updates = append(all.Updates, r.Updates...)
	all.Connect = all.Connect || r.Connect
	all.Close = all.Close || r.Close
	all.Up = all.Up || r.Up
	all.Down = all.Down || r.Down
	if r.Close {
		all.Last = r.Last
	}
}

// P12.3: in whatever pieces bytes come in, the same comes of them.
func TestPieces(t *testing.T) {
	var seed uint64 = 12
	fell, held := 0, 0
	for range 60 {
		b := talk(t, &seed)
		whole, timers := to(t, api.PhaseSent)
		want, out := whole.Feed(b, 300), whole.Out(math.MaxInt)
		for _, most := range []int{1, 18, 500, 4096, 50000} {
			p, others := to(t, api.PhaseSent)
			var got api.Result
			for rest := b; len(rest) > 0; {
				n := min(1+next(&seed)%most, len(rest))
				into(&got, p.Feed(rest[:n], 300))
				rest = rest[n:]
			}
			comes(t, got, want)
			if p.State() != whole.State() || !bytes.Equal(p.Out(math.MaxInt), out) {
				t.Fatal(p.State(), whole.State())
			}
			for kind := api.TimerHold; kind <= api.TimerRetry; kind++ {
				k := api.Timer{Peer: number, Kind: kind}
				at, is := timers.At(k)
				if of, other := others.At(k); of != at || is != other {
					t.Fatal(kind, at, of)
				}
			}
		}
		if want.Down {
			fell++
		} else if want.Up {
			held++
		}
	}
	if fell < 5 || held < 5 {
		t.Error(fell, held)
	}
}

// P12.3: as many bytes as may come in at once are all taken, even where a part of a message is there already.
func TestMost(t *testing.T) {
	p, _ := to(t, api.PhaseUp)
	u := updated(t, routes(230), true, true)
	var b []byte
	for len(b) < 65536+3000 {
		b = append(b, u...)
	}
	comes(t, p.Feed(b[:3000], 1), p.Feed(nil, 1))
	n := 0
	for _, piece := range [][]byte{b[3000 : 3000+65536], b[3000+65536:]} {
		r := p.Feed(piece, 2)
		n += len(r.Updates)
		if r.Close {
			t.Fatal(r.Last)
		}
	}
	if n < 10 || n != len(b)/len(u) {
		t.Error(n, len(b)/len(u))
	}
}

// P12.3: what goes out is whole messages, however it is taken; an Open is the first of each connection.
func TestWhole(t *testing.T) {
	var seed uint64 = 5
	for range 100 {
		p, _ := to(t, api.PhaseConnect)
		p.Do(api.EvUp, 200)
		p.Feed(slices.Concat(opened(t, theirs()), kept(t)), 200)
		var out []byte
		kinds := []int{api.TypeOpen, api.TypeKeep}
		for range next(&seed) % 60 {
			before := p.State().Phase
			switch next(&seed) % 3 {
			case 0:
				p.Do(api.EvBeat, 300)
				kinds = append(kinds, api.TypeKeep)
			case 1:
				if e := p.Put(api.Update{Gone: make([]api.Nlri, next(&seed)%1000)}); e == api.OK {
					kinds = append(kinds, api.TypeUpdate)
				} else if e != api.ErrFull {
					t.Fatal(e)
				}
			case 2:
				out = append(out, p.Out(next(&seed)%3000)...)
			}
			if p.State().Phase != before {
				t.Fatal(before, p.State())
			}
		}
		l := messages(t, append(out, p.Out(math.MaxInt)...))
		for i, m := range l {
			if len(l) != len(kinds) || m.Type != kinds[i] {
				t.Fatal(i, m.Type, len(l), len(kinds))
			}
		}
	}
}

// readSession is another one's reading of bytes that come in: the messages ahead are split first, and then a step is taken of each.
func readSession(l api.Local, s api.State, b []byte) (api.State, []api.Update, api.Note) {
	stream := frame.New()
	stream.Feed(b)
	for {
		m, is, bad := stream.Next()
		e := api.Event{Kind: []int{0, api.EvOpen, api.EvUpdate, api.EvNote, api.EvKeep}[m.Type]}
		var u api.Update
		switch {
		case bad.Code != 0:
		case !is:
			return s, nil, api.Note{}
		case m.Type == api.TypeOpen:
			e.Open, bad = open.Get(m.Body)
		case m.Type == api.TypeUpdate && s.Phase == api.PhaseUp:
			u, bad = update.Get(m.Body, s.Four, s.Paths)
		}
		if bad.Code != 0 {
			e = api.Event{Kind: api.EvBad, Note: bad}
		}
		then, acts := fsm.Step(l, s, e)
		if then.Phase < api.PhaseSent {
			if acts[0].Kind == api.ActNote {
				bad = acts[0].Note
			}
			return then, nil, bad
		}
		rest, _ := frame.Put(m)
		b = b[len(rest):]
		then, more, last := readSession(l, then, b)
		if s.Phase == api.PhaseUp && m.Type == api.TypeUpdate {
			more = append([]api.Update{u}, more...)
		}
		return then, more, last
	}
}

func FuzzFeed(f *testing.F) {
	o, _ := open.Message(theirs())
	a, _ := frame.Put(o)
	k, _ := frame.Put(api.Message{Type: api.TypeKeep})
	m, _ := update.Put(api.Update{Routes: []api.Nlri{{ID: 1}}, A: api.Attrs{Next: 1, Med: -1, Pref: -1}}, true, true)
	u, _ := frame.Put(m)
	f.Add(slices.Concat(a, k, u, u), 3)
	f.Add(slices.Concat(a, k, u, a), 50)
	f.Add(slices.Concat(a, make([]byte, 40)), 1)
	f.Fuzz(func(t *testing.T, b []byte, cut int) {
		if len(b) > 4000 {
			return
		}
		whole, _ := to(t, api.PhaseSent)
		pieces, _ := to(t, api.PhaseSent)
		s := whole.State()
		r := whole.Feed(b, 7)
		n := 0
		if len(b) > 0 {
			n = int(uint(cut) % uint(len(b)))
		}
		got := pieces.Feed(b[:n], 7)
		into(&got, pieces.Feed(b[n:], 7))
		then, l, bad := readSession(local(), s, b)
		last := []byte(nil)
		if bad.Code != 0 {
			last = noted(t, bad.Code, bad.Sub, bad.Data...)
		}
		if !same(r, got) || whole.State() != pieces.State() || then != whole.State() || !bytes.Equal(last, r.Last) || !slices.EqualFunc(l, r.Updates, update.Same) {
			t.Fatalf("%+v %+v %v %v", r, got, then, whole.State())
		}
		messages(t, whole.Out(math.MaxInt))
	})
}
