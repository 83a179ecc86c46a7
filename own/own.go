// Package own makes copies that share no list with what they are made of: of what is kept from call to call, and of what is answered.
package own

import (
	"slices"

	"bypath/api"
)

// Attrs is a, with lists of its own.
func Attrs(a api.Attrs) api.Attrs {
	a.Path = slices.Clone(a.Path)
	for i := range a.Path {
		a.Path[i].AS = slices.Clone(a.Path[i].AS)
	}
	a.Comms = slices.Clone(a.Comms)
	return a
}

// Route is r, with lists of its own.
func Route(r api.Route) api.Route {
	r.A = Attrs(r.A)
	return r
}
