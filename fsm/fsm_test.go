package fsm_test

import (
	"bytes"
	"math"
	"slices"
	"strconv"
	"strings"
	"testing"

	"bypath/api"
	"bypath/fsm"
)

func local() api.Local {
	return api.Local{Open: api.Open{AS: 65000, Hold: 90, ID: 1, Four: true, Paths: 1}, Retry: 30}
}

// theirs is what the other one says, so that a session comes of it.
func theirs() api.Open { return api.Open{AS: 65000, Hold: 60, ID: 2, Four: true, Paths: 2} }

// named is an act as a text: its name, and its number or its note where it may have one.
func named(a api.Act) string {
	names := []string{"?", "connect", "open", "keep", "note", "close", "hold", "beat", "retry", "up", "down"}
	s := names[0]
	if a.Kind > 0 && a.Kind < len(names) {
		s = names[a.Kind]
	}
	switch a.Kind {
	case api.ActHold, api.ActBeat, api.ActRetry:
		s += " " + strconv.Itoa(a.N)
		a.N = 0
	case api.ActNote:
		s += " " + strconv.Itoa(a.Note.Code) + " " + strconv.Itoa(a.Note.Sub) + string(a.Note.Data)
		a.Note = api.Note{}
	}
	if a.N != 0 || a.Note.Code != 0 || a.Note.Sub != 0 || len(a.Note.Data) != 0 {
		s += " with more"
	}
	return s
}

func texts(acts []api.Act) string {
	var l []string
	for _, a := range acts {
		l = append(l, named(a))
	}
	return strings.Join(l, ", ")
}

// asks takes one step, and holds what comes of it against a state, and acts as a text.
func asks(t *testing.T, l api.Local, s api.State, e api.Event, then api.State, acts string) {
	t.Helper()
	if got, a := fsm.Step(l, s, e); got != then || texts(a) != acts {
		t.Errorf("%v %v %v:\n%v %v\n%v %v", l, s, e, got, texts(a), then, acts)
	}
}

// bad is a wrong message's event.
func bad() api.Event {
	return api.Event{Kind: api.EvBad, Note: api.Note{Code: 3, Sub: 10, Data: []byte("!")}}
}

// states are one of each phase.
func states() []api.State {
	return []api.State{
		{Phase: api.PhaseIdle},
		{Phase: api.PhaseConnect},
		{Phase: api.PhaseSent},
		{Phase: api.PhaseConfirm, Hold: 61, Four: true, Paths: true, ID: 2},
		{Phase: api.PhaseUp, Hold: 61, Four: true, Paths: true, ID: 2},
	}
}

// P11.1: of each phase and each event, what is done, and which state comes of it.
func TestTable(t *testing.T) {
	const (
		closed = "close, hold 0, beat 0, retry 30"
		ended  = "close, hold 0, beat 0, retry 0"
		tried  = "retry 30, connect"
	)
	idle, connect := api.State{Phase: api.PhaseIdle}, api.State{Phase: api.PhaseConnect}
	sent, confirm, up := states()[2], states()[3], states()[4]
	met := api.State{Phase: api.PhaseConfirm, Hold: 60, Four: true, Paths: true, ID: 2}
	type then struct {
		s    api.State
		acts string
	}
	for _, row := range []struct {
		e api.Event
		l [5]then // by phases
	}{
		{api.Event{Kind: api.EvStart}, [5]then{{connect, tried}, {connect, ""}, {sent, ""}, {confirm, ""}, {up, ""}}},
		{api.Event{Kind: api.EvStop}, [5]then{{idle, ""}, {idle, ended}, {idle, "note 6 2, " + ended}, {idle, "note 6 2, " + ended}, {idle, "note 6 2, " + ended + ", down"}}},
		{api.Event{Kind: api.EvUp}, [5]then{{idle, ""}, {sent, "retry 0, open, hold 240"}, {sent, ""}, {confirm, ""}, {up, ""}}},
		{api.Event{Kind: api.EvDown}, [5]then{{idle, ""}, {connect, "retry 30"}, {connect, closed}, {connect, closed}, {connect, closed + ", down"}}},
		{api.Event{Kind: api.EvOpen, Open: theirs()}, [5]then{{idle, ""}, {connect, ""}, {met, "keep, beat 20, hold 60"}, {connect, "note 5 2, " + closed}, {connect, "note 5 3, " + closed + ", down"}}},
		{api.Event{Kind: api.EvKeep}, [5]then{{idle, ""}, {connect, ""}, {connect, "note 5 1, " + closed}, {up, "hold 61, up"}, {up, "hold 61"}}},
		{api.Event{Kind: api.EvUpdate}, [5]then{{idle, ""}, {connect, ""}, {connect, "note 5 1, " + closed}, {connect, "note 5 2, " + closed}, {up, "hold 61"}}},
		{api.Event{Kind: api.EvNote}, [5]then{{idle, ""}, {connect, ""}, {connect, closed}, {connect, closed}, {connect, closed + ", down"}}},
		{bad(), [5]then{{idle, ""}, {connect, ""}, {connect, "note 3 10!, " + closed}, {connect, "note 3 10!, " + closed}, {connect, "note 3 10!, " + closed + ", down"}}},
		{api.Event{Kind: api.EvBad}, [5]then{{idle, ""}, {connect, ""}, {connect, closed}, {connect, closed}, {connect, closed + ", down"}}},
		{api.Event{Kind: api.EvHold}, [5]then{{idle, ""}, {connect, ""}, {connect, "note 4 0, " + closed}, {connect, "note 4 0, " + closed}, {connect, "note 4 0, " + closed + ", down"}}},
		{api.Event{Kind: api.EvBeat}, [5]then{{idle, ""}, {connect, ""}, {sent, ""}, {confirm, "keep, beat 20"}, {up, "keep, beat 20"}}},
		{api.Event{Kind: api.EvRetry}, [5]then{{idle, ""}, {connect, tried}, {sent, ""}, {confirm, ""}, {up, ""}}},
	} {
		for i, s := range states() {
			asks(t, local(), s, row.e, row.l[i].s, row.l[i].acts)
		}
	}
	for _, kind := range []int{0, -1, 13, 14, math.MinInt, math.MaxInt, api.EvStop + 1<<32} {
		e := bad()
		e.Kind = kind
		for _, s := range states() {
			asks(t, local(), s, e, s, "")
		}
	}
}

// P11.1: where the session is held 0 seconds, no moment is waited for, and a Keep answers an Open alone.
func TestHoldNever(t *testing.T) {
	l := local()
	l.Open.Hold = 0
	met := api.State{Phase: api.PhaseConfirm, Four: true, Paths: true, ID: 2}
	up := met
	up.Phase = api.PhaseUp
	asks(t, l, states()[2], api.Event{Kind: api.EvOpen, Open: theirs()}, met, "keep, beat 0, hold 0")
	asks(t, l, met, api.Event{Kind: api.EvBeat}, met, "beat 0")
	asks(t, l, met, api.Event{Kind: api.EvKeep}, up, "hold 0, up")
	asks(t, l, up, api.Event{Kind: api.EvBeat}, up, "beat 0")
	asks(t, l, up, api.Event{Kind: api.EvKeep}, up, "hold 0")
	asks(t, l, up, api.Event{Kind: api.EvUpdate}, up, "hold 0")
	o := theirs()
	o.Hold = 0
	asks(t, local(), states()[2], api.Event{Kind: api.EvOpen, Open: o}, met, "keep, beat 0, hold 0")
}

// P11.1: what a session is held by: the lesser Hold, a third of it without what is behind the point.
func TestHold(t *testing.T) {
	for _, x := range []struct {
		ours, theirs, hold int
		beat               string
	}{
		{90, 60, 60, "20"}, {60, 90, 60, "20"}, {90, 90, 90, "30"}, {3, 90, 3, "1"}, {90, 4, 4, "1"}, {5, 90, 5, "1"},
		{90, 62, 62, "20"}, {65535, 65534, 65534, "21844"}, {65535, 65535, 65535, "21845"}, {0, 65535, 0, "0"},
	} {
		l, o := local(), theirs()
		l.Open.Hold, o.Hold = x.ours, x.theirs
		s := api.State{Phase: api.PhaseConfirm, Hold: x.hold, Four: true, Paths: true, ID: 2}
		asks(t, l, states()[2], api.Event{Kind: api.EvOpen, Open: o}, s, "keep, beat "+x.beat+", hold "+strconv.Itoa(x.hold))
	}
}

// P11.1: AS numbers have 4 bytes if both say so; several paths are told if we take, and the other one gives.
func TestMeet(t *testing.T) {
	for way := range 16 {
		for four := range 4 {
			l, o := local(), theirs()
			l.Open.Paths, o.Paths = way/4, way%4
			l.Open.Four, o.Four = four&1 != 0, four&2 != 0
			o.ID = math.MaxUint32
			s := api.State{Phase: api.PhaseConfirm, Hold: 60, Four: four == 3, Paths: way/4&1 != 0 && way%4&2 != 0, ID: math.MaxUint32}
			asks(t, l, states()[2], api.Event{Kind: api.EvOpen, Open: o}, s, "keep, beat 20, hold 60")
		}
	}
}

// P11.1: another AS is told ahead of our own ID; both make the session fall.
func TestMeetWrong(t *testing.T) {
	connect := api.State{Phase: api.PhaseConnect}
	for _, x := range []struct {
		as   int
		id   uint32
		note string
	}{{65001, 2, "2 2"}, {65001, 1, "2 2"}, {65000, 1, "2 3"}, {0, 2, "2 2"}, {api.TransAS, 2, "2 2"}, {65000 + 1<<32, 2, "2 2"}} {
		o := theirs()
		o.AS, o.ID = x.as, x.id
		asks(t, local(), states()[2], api.Event{Kind: api.EvOpen, Open: o}, connect, "note "+x.note+", close, hold 0, beat 0, retry 30")
	}
	l := local()
	l.Open.AS = api.MaxAS
	o := theirs()
	o.AS = api.MaxAS
	if s, _ := fsm.Step(l, states()[2], api.Event{Kind: api.EvOpen, Open: o}); s.Phase != api.PhaseConfirm {
		t.Error(s)
	}
}

// P11.1: how many seconds we wait to connect stands in all acts that say so, from one end to the other.
func TestRetry(t *testing.T) {
	for _, n := range []int{1, 2, 65535} {
		l, of := local(), "retry "+strconv.Itoa(n)
		l.Retry = n
		connect := api.State{Phase: api.PhaseConnect}
		asks(t, l, states()[0], api.Event{Kind: api.EvStart}, connect, of+", connect")
		asks(t, l, connect, api.Event{Kind: api.EvDown}, connect, of)
		asks(t, l, states()[3], api.Event{Kind: api.EvHold}, connect, "note 4 0, close, hold 0, beat 0, "+of)
	}
}

// P11.1: what Check refuses, what it says first, and that no step is taken of that.
func TestCheck(t *testing.T) {
	for i, x := range []struct {
		e      api.Errno
		change func(l *api.Local)
	}{
		{api.ErrOpen, func(l *api.Local) { l.Open.AS = 0 }},
		{api.ErrOpen, func(l *api.Local) { l.Open.AS = 1 << 32 }},
		{api.ErrOpen, func(l *api.Local) { l.Open.AS, l.Open.Four = 65536, false }},
		{api.ErrOpen, func(l *api.Local) { l.Open.Hold = 2 }},
		{api.ErrOpen, func(l *api.Local) { l.Open.Hold = 65536 }},
		{api.ErrOpen, func(l *api.Local) { l.Open.Hold = -1 }},
		{api.ErrOpen, func(l *api.Local) { l.Open.ID = 0 }},
		{api.ErrOpen, func(l *api.Local) { l.Open.Paths = 4 }},
		{api.ErrOpen, func(l *api.Local) { l.Open.Paths = -1 }},
		{api.ErrOpen, func(l *api.Local) { l.Open.ID, l.Retry = 0, 0 }},
		{api.ErrOpen, func(l *api.Local) { *l = api.Local{} }},
		{api.ErrArg, func(l *api.Local) { l.Retry = 0 }},
		{api.ErrArg, func(l *api.Local) { l.Retry = -1 }},
		{api.ErrArg, func(l *api.Local) { l.Retry = 65536 }},
		{api.ErrArg, func(l *api.Local) { l.Retry = 1<<32 + 1 }},
		{api.ErrArg, func(l *api.Local) { l.Retry = math.MaxInt }},
		{api.ErrArg, func(l *api.Local) { l.Retry = math.MinInt }},
	} {
		l := local()
		x.change(&l)
		if e := fsm.Check(l); e != x.e {
			t.Error(i, e, x.e)
		}
		for _, s := range states() {
			for kind := api.EvStart; kind <= api.EvRetry; kind++ {
				asks(t, l, s, api.Event{Kind: kind, Open: theirs(), Note: bad().Note}, s, "")
			}
		}
	}
	for _, n := range []int{1, 2, 30, 65534, 65535} {
		l := local()
		l.Retry = n
		if e := fsm.Check(l); e != api.OK {
			t.Error(n, e)
		}
	}
}

// P11.1: which phases there are, and that no step is taken from another one.
func TestKnown(t *testing.T) {
	for _, s := range states() {
		if !fsm.Known(s) || !fsm.Known(api.State{Phase: s.Phase, Hold: -1, ID: 7}) {
			t.Error(s)
		}
	}
	for _, phase := range []int{0, -1, 6, 7, math.MinInt, math.MaxInt, api.PhaseUp + 1<<32} {
		s := api.State{Phase: phase, Hold: 60, Four: true, ID: 9}
		if fsm.Known(s) {
			t.Error(phase)
		}
		for kind := api.EvStart - 1; kind <= api.EvRetry+1; kind++ {
			asks(t, local(), s, api.Event{Kind: kind, Open: theirs(), Note: bad().Note}, s, "")
		}
	}
}

// P11.1: the document's example.
func TestExample(t *testing.T) {
	_, acts := fsm.Step(local(), states()[4], api.Event{Kind: api.EvHold})
	if texts(acts) != "note 4 0, close, hold 0, beat 0, retry 30, down" {
		t.Error(texts(acts))
	}
}

// R3: a note's data is neither changed nor kept by what a step answers.
func TestShares(t *testing.T) {
	data := append(make([]byte, 0, 8), "abc"...)
	e := api.Event{Kind: api.EvBad, Note: api.Note{Code: 1, Sub: 2, Data: data[:2]}}
	_, acts := fsm.Step(local(), states()[2], e)
	_, again := fsm.Step(local(), states()[2], e)
	acts[0].Note.Data[0] = 'x'
	_ = append(acts[0].Note.Data, 'y')
	if string(data) != "abc" || string(again[0].Note.Data) != "ab" {
		t.Error(data, again[0].Note)
	}
	data[1] = 'z'
	if string(again[0].Note.Data) != "ab" {
		t.Error(again[0].Note)
	}
}

func next(seed *uint64) int {
	*seed = *seed*6364136223846793005 + 1442695040888963407
	return int(*seed >> 33)
}

// event is some event, of a kind that is one or not.
func event(seed *uint64) api.Event {
	e := api.Event{Kind: next(seed)%15 - 1, Open: theirs(), Note: api.Note{Code: next(seed) % 3, Sub: next(seed) % 9}}
	switch next(seed) % 8 {
	case 0:
		e.Open.AS++
	case 1:
		e.Open.ID--
	case 2:
		e.Open.Hold = next(seed) % 200
	case 3:
		e.Note.Data = []byte{1, 2, 3}
	}
	return e
}

// has tells whether one of the acts is of a kind.
func has(acts []api.Act, kind int) bool {
	return slices.ContainsFunc(acts, func(a api.Act) bool { return a.Kind == kind })
}

// holds is P11.2 of one step.
func holds(t *testing.T, s api.State, e api.Event, then api.State, acts []api.Act) {
	t.Helper()
	up, was := then.Phase == api.PhaseUp, s.Phase == api.PhaseUp
	if has(acts, api.ActUp) != (up && !was) || has(acts, api.ActDown) != (was && !up) {
		t.Fatal(s, e, then, texts(acts))
	}
	if s.Phase >= api.PhaseSent && then.Phase < api.PhaseSent && !has(acts, api.ActClose) {
		t.Fatal(s, e, then, texts(acts))
	}
	if has(acts, api.ActClose) && then.Phase >= api.PhaseSent {
		t.Fatal(s, e, then, texts(acts))
	}
	if fsm.Known(s) != fsm.Known(then) {
		t.Fatal(s, e, then)
	}
}

// P11.2: ActUp, ActDown, ActClose on long ways through the phases; each phase is come to.
func TestFollows(t *testing.T) {
	var seed uint64 = 11
	var seen [api.PhaseUp + 1]int
	s := api.State{Phase: api.PhaseIdle}
	for range 20000 {
		e := event(&seed)
		if next(&seed)%3 > 0 { // what a session waits for, so that it comes far
			e.Kind = []int{0, api.EvStart, api.EvUp, api.EvOpen, api.EvKeep, api.EvUpdate}[s.Phase]
		}
		then, acts := fsm.Step(local(), s, e)
		holds(t, s, e, then, acts)
		s = then
		seen[s.Phase]++
	}
	for phase := api.PhaseIdle; phase <= api.PhaseUp; phase++ {
		if seen[phase] < 100 {
			t.Error(phase, seen[phase])
		}
	}
}

func FuzzStep(f *testing.F) {
	f.Add(5, 60, 8, 65000, 60, uint32(2), 3, 1, []byte{1})
	f.Add(3, 0, 5, 65000, 0, uint32(2), 2, 0, []byte{})
	f.Add(9, -1, 13, -1, -1, uint32(0), -1, -1, []byte{})
	f.Fuzz(func(t *testing.T, phase, hold, kind, as, theirs int, id uint32, paths, code int, data []byte) {
		s := api.State{Phase: phase, Hold: hold, ID: id}
		e := api.Event{Kind: kind, Open: api.Open{AS: as, Hold: theirs, ID: id, Paths: paths}, Note: api.Note{Code: code, Data: data}}
		was := bytes.Clone(data)
		then, acts := fsm.Step(local(), s, e)
		again, l := fsm.Step(local(), s, e)
		if then != again || texts(acts) != texts(l) || !bytes.Equal(was, data) {
			t.Fatal(s, e, then, again)
		}
		if !fsm.Known(s) && (then != s || len(acts) != 0) {
			t.Fatal(s, e, then)
		}
		holds(t, s, e, then, acts)
	})
}
