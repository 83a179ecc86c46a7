package control

import (
	"reflect"
	"testing"

	"bypath/addr"
	"bypath/api"
	"bypath/conf"
	"bypath/frame"
	"bypath/open"
	"bypath/update"
)

// told is what must be done.
func told(t *testing.T, c *Control, d api.Do) api.Done {
	t.Helper()
	x := c.Step(d)
	if x.E != api.OK {
		t.Fatal(d.Kind, x.E)
	}
	return x
}

// bytesOf are the bytes of messages: an Open, a Keep, and an update of each route, from the ID 1 on.
func bytesOf(t *testing.T, p api.Prefix, l ...api.Attrs) []byte {
	t.Helper()
	o, e := open.Message(api.Open{AS: 65000, ID: 1, Four: true, Paths: 2})
	if e != api.OK {
		t.Fatal(e)
	}
	all := []api.Message{o, {Type: api.TypeKeep}}
	for i, a := range l {
		m, e := update.Put(api.Update{Routes: []api.Nlri{{ID: i + 1, P: p}}, A: a}, true, true)
		if e != api.OK {
			t.Fatal(e)
		}
		all = append(all, m)
	}
	var b []byte
	for _, m := range all {
		one, _ := frame.Put(m)
		b = append(b, one...)
	}
	return b
}

// P26.1: no moment is beyond MaxSum, neither the controller's nor the last one of a detour. No number of ticks that one has time for comes there, so the controller is put there.
func TestLastMoment(t *testing.T) {
	s := conf.First()
	s.Cycle, s.Warm = 1, 1
	s.Ifaces = []api.Iface{{ID: 1, Net: addr.Make(0x0a000000, 8), Cap: 100}, {ID: 2, Net: addr.Make(0x0b000000, 8), Cap: 200}}
	c, e := New(s)
	if e != api.OK {
		t.Fatal(e)
	}
	p := addr.Make(0x14000000, 8)
	c.now = api.MaxSum - 2
	told(t, c, api.Do{Kind: api.DoStart})
	told(t, c, api.Do{Kind: api.DoConnect})
	told(t, c, api.Do{Kind: api.DoBytes, Data: bytesOf(t, p, api.Attrs{Next: 0x0a000001, Med: -1, Pref: -1}, api.Attrs{Next: 0x0b000001, Med: -1, Pref: 1})})
	for seq := range 2 {
		told(t, c, api.Do{Kind: api.DoCounts, Counts: api.Report{Seq: seq, Counts: []api.Count{{P: p, N: 95 * seq}}}})
		told(t, c, api.Do{Kind: api.DoTick})
	}
	want := api.Status{
		Now: api.MaxSum, Phases: []int{api.PhaseUp}, Routes: 2, Open: true,
		Overs: []api.Over{{Key: api.Key{P: p, ID: 2}, Until: api.MaxSum}},
	}
	for range 3 {
		if got := c.Status(); !reflect.DeepEqual(got, want) || len(c.Said(0)) != 1 {
			t.Errorf("%+v, not %+v", got, want)
		}
		if x := c.Step(api.Do{Kind: api.DoTick, Router: -1}); !reflect.DeepEqual(x, api.Done{E: api.ErrFull}) {
			t.Errorf("%+v", x)
		}
	}
	told(t, c, api.Do{Kind: api.DoCounts, Counts: api.Report{Seq: 9}})
	if l := c.Demands(); len(l) != 0 {
		t.Error(l)
	}
}
