package control

import (
	"slices"

	"bypath/addr"
	"bypath/api"
	"bypath/num"
	"bypath/pick"
	"bypath/policy"
)

// none is the place of a detour that is not there.
const none = -1

// cycle lets what is planned be in force, if a plan could be made.
func (s *step) cycle() {
	wants := s.wants()
	plan := pick.Run(s.conf, s.caps, wants)
	s.done.Cycle, s.done.Plan = true, plan
	if !plan.Over {
		s.take(wants, plan.At)
	}
}

// take lets each want's detour be in force, by its place, or none. Those that go back go first, so that there is room for those that come; where there are more than may be in force, the last ones that come are not.
func (s *step) take(wants []api.Want, at []int) {
	for i, w := range wants {
		if at[i] == none {
			s.overs.Delete(w.P)
		}
	}
	until := num.Add(s.now, s.conf.Expire)
	for i, w := range wants {
		if at[i] != none {
			s.overs.Set(api.Over{Key: w.Detours[at[i]].R.Key, Until: until})
		}
	}
}

// wants are those of the prefixes that have something to go to them, or a detour in force, and routes.
func (s *step) wants() []api.Want {
	var l []api.Want
	for _, p := range s.wanted() {
		routes := s.Routes(p)
		first, is := policy.First(s.hops, routes)
		if !is {
			continue
		}
		w := api.Want{P: p, N: s.meter.Demand(p), First: first, Detours: s.detours(routes), At: none}
		if o, is := s.overs.Get(p); is {
			w.At = place(w.Detours, o.Key)
		}
		l = append(l, w)
	}
	return l
}

// wanted are the prefixes that have a demand, or a detour in force, in order.
func (s *step) wanted() []api.Prefix {
	var l []api.Prefix
	for _, n := range s.Demands() {
		l = append(l, n.P)
	}
	for _, o := range s.overs.All() {
		l = append(l, o.Key.P)
	}
	slices.SortFunc(l, addr.Compare)
	return slices.Compact(l)
}

// detours are those of a prefix's routes.
func (s *step) detours(routes []api.Route) []api.Option {
	return policy.Detours(s.conf, s.hops, s.caps, routes)
}

// place is where the detour of k stands.
func place(detours []api.Option, k api.Key) int {
	return slices.IndexFunc(detours, func(o api.Option) bool { return o.R.Key == k })
}
