package own_test

import (
	"reflect"
	"testing"

	"bypath/api"
	"bypath/own"
)

// rich is a route of which every list has something.
func rich() api.Route {
	return api.Route{
		Key: api.Key{Router: 3, P: api.Prefix{Addr: 0x0a000000, Len: 8}, ID: 5},
		A: api.Attrs{
			Origin: 1, Path: []api.Segment{{AS: []int{7, 8}}, {Set: true, AS: []int{9, 7}}},
			Next: 0x0a000001, Med: 4, Pref: 200, Comms: []int{1, 2, 3},
		},
	}
}

// spoil changes all lists of a, and what lies behind their ends.
func spoil(a api.Attrs) {
	for i := range a.Path {
		for j := range a.Path[i].AS {
			a.Path[i].AS[j] = -1
		}
		a.Path[i].AS = append(a.Path[i].AS, -2)
		a.Path[i] = api.Segment{}
	}
	for i := range a.Comms {
		a.Comms[i] = -1
	}
	_ = append(a.Path, api.Segment{AS: []int{-3}})
	_ = append(a.Comms, -3)
}

// R3: a copy is the same, and shares no list.
func TestRoute(t *testing.T) {
	r := rich()
	c := own.Route(r)
	if !reflect.DeepEqual(c, r) {
		t.Fatal(c)
	}
	spoil(c.A)
	if !reflect.DeepEqual(r, rich()) {
		t.Error("the copy shares with", r)
	}
	c = own.Route(r)
	spoil(r.A)
	if !reflect.DeepEqual(c, rich()) {
		t.Error("what is copied shares with", c)
	}
}

func TestAttrs(t *testing.T) {
	if a := own.Attrs(rich().A); !reflect.DeepEqual(a, rich().A) {
		t.Error(a)
	}
	for _, a := range []api.Attrs{{}, {Path: []api.Segment{{}}}, {Med: -1, Pref: -1}} {
		if c := own.Attrs(a); !reflect.DeepEqual(c, a) {
			t.Error(a, c)
		}
	}
}
