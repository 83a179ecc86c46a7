// Package own makes copies that share no list with what they are made of: of what is kept from call to call, and of what is answered.
package own

import (
	"slices"

	"bypath/api"
)

// Attrs is a, with lists of its own.
func Attrs(a api.Attrs) api.Attrs {
	a.Path = slices.Clone(a.Path)
	for i := range a.Path {
		a.Path[i].AS = slices.Clone(a.Path[i].AS)
	}
	a.Comms = slices.Clone(a.Comms)
	return a
}

// Route is r, with lists of its own.
func Route(r api.Route) api.Route {
	r.A = Attrs(r.A)
	return r
}

// Option is o, with lists of its own.
func Option(o api.Option) api.Option {
	o.R = Route(o.R)
	return o
}

// Want is w, with lists of its own.
func Want(w api.Want) api.Want {
	w.First = Option(w.First)
	w.Detours = slices.Clone(w.Detours)
	for i, o := range w.Detours {
		w.Detours[i] = Option(o)
	}
	return w
}

// Says is l, with lists of its own.
func Says(l []api.Say) []api.Say {
	l = slices.Clone(l)
	for i := range l {
		l[i].A = Attrs(l[i].A)
	}
	return l
}

// Conf is c, with lists of its own.
func Conf(c api.Conf) api.Conf {
	c.Ifaces = slices.Clone(c.Ifaces)
	c.Deny = slices.Clone(c.Deny)
	return c
}
