package own_test

import (
	"reflect"
	"testing"

	"bypath/api"
	"bypath/own"
)

// rich is a route of which every list has something.
func rich() api.Route {
	return api.Route{
		Key: api.Key{Router: 3, P: api.Prefix{Addr: 0x0a000000, Len: 8}, ID: 5},
		A: api.Attrs{
			Origin: 1, Path: []api.Segment{{AS: []int{7, 8}}, {Set: true, AS: []int{9, 7}}},
			Next: 0x0a000001, Med: 4, Pref: 200, Comms: []int{1, 2, 3},
		},
	}
}

// spoil changes all lists of a, and what lies behind their ends.
func spoil(a api.Attrs) {
	for i := range a.Path {
		for j := range a.Path[i].AS {
			a.Path[i].AS[j] = -1
		}
		a.Path[i].AS = append(a.Path[i].AS, -2)
		a.Path[i] = api.Segment{}
	}
	for i := range a.Comms {
		a.Comms[i] = -1
	}
	_ = append(a.Path, api.Segment{AS: []int{-3}})
	_ = append(a.Comms, -3)
}

// R3: a copy is the same, and shares no list.
func TestRoute(t *testing.T) {
	r := rich()
	c := own.Route(r)
	if !reflect.DeepEqual(c, r) {
		t.Fatal(c)
	}
	spoil(c.A)
	if !reflect.DeepEqual(r, rich()) {
		t.Error("the copy shares with", r)
	}
	c = own.Route(r)
	spoil(r.A)
	if !reflect.DeepEqual(c, rich()) {
		t.Error("what is copied shares with", c)
	}
}

func TestAttrs(t *testing.T) {
	if a := own.Attrs(rich().A); !reflect.DeepEqual(a, rich().A) {
		t.Error(a)
	}
	for _, a := range []api.Attrs{{}, {Path: []api.Segment{{}}}, {Med: -1, Pref: -1}} {
		if c := own.Attrs(a); !reflect.DeepEqual(c, a) {
			t.Error(a, c)
		}
	}
}

// richWant is a want of which every list has something.
func richWant() api.Want {
	o := api.Option{R: rich(), Iface: 2}
	return api.Want{P: api.Prefix{Len: 1}, N: 9, First: o, Detours: []api.Option{{R: rich(), Iface: 3}, {R: rich(), Iface: 4}}, At: 1}
}

// spoilWant is as spoil, of a want.
func spoilWant(w api.Want) {
	spoil(w.First.R.A)
	for i := range w.Detours {
		spoil(w.Detours[i].R.A)
		w.Detours[i] = api.Option{}
	}
	_ = append(w.Detours, api.Option{Iface: -3})
}

// R3: as TestRoute, of options and of wants.
func TestWant(t *testing.T) {
	o := richWant().First
	c := own.Option(o)
	if !reflect.DeepEqual(c, o) {
		t.Error(c)
	}
	spoil(c.R.A)
	if !reflect.DeepEqual(o, richWant().First) {
		t.Error("the copy shares with", o)
	}
	w := richWant()
	d := own.Want(w)
	if !reflect.DeepEqual(d, w) {
		t.Error(d)
	}
	spoilWant(d)
	if !reflect.DeepEqual(w, richWant()) {
		t.Error("the copy shares with", w)
	}
	d = own.Want(w)
	spoilWant(w)
	if !reflect.DeepEqual(d, richWant()) {
		t.Error("what is copied shares with", d)
	}
	if d := own.Want(api.Want{At: -1}); !reflect.DeepEqual(d, api.Want{At: -1}) {
		t.Error(d)
	}
}

// R3: as TestRoute, of what is said, and of settings.
func TestSays(t *testing.T) {
	made := func() []api.Say {
		return []api.Say{{P: api.Prefix{Len: 1}, A: rich().A}, {A: rich().A}}
	}
	l := made()
	c := own.Says(l)
	if !reflect.DeepEqual(c, l) {
		t.Fatal(c)
	}
	for i := range c {
		spoil(c[i].A)
		c[i] = api.Say{}
	}
	_ = append(c, api.Say{})
	if !reflect.DeepEqual(l, made()) {
		t.Error("the copy shares with", l)
	}
	if c := own.Says(nil); len(c) != 0 {
		t.Error(c)
	}
}

func TestConf(t *testing.T) {
	made := func() api.Conf {
		return api.Conf{AS: 5, Moves: 3, Ifaces: []api.Iface{{ID: 1}, {ID: 2, Cap: 9}}, Deny: []int{6, 7}}
	}
	s := made()
	c := own.Conf(s)
	if !reflect.DeepEqual(c, s) {
		t.Fatal(c)
	}
	c.Ifaces[1], c.Deny[0] = api.Iface{}, -1
	_, _ = append(c.Ifaces, api.Iface{}), append(c.Deny, -3)
	if !reflect.DeepEqual(s, made()) {
		t.Error("the copy shares with", s)
	}
	if c := own.Conf(api.Conf{}); !reflect.DeepEqual(c, api.Conf{}) {
		t.Error(c)
	}
}
