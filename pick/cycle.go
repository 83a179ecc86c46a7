package pick

import (
	"cmp"
	"slices"

	"bypath/api"
	"bypath/capa"
	"bypath/load"
)

// none is the place of the detour of a want that takes its first choice, or has none to take.
const none = -1

// limits are up to how much may go out by an interface so that a want goes back to it, and so that it is moved to it.
type limits struct{ low, high int }

// cycle is wants, the interface that each one takes so far, and the interfaces that are told of.
type cycle struct {
	wants  []api.Want
	ways   []int
	loads  *load.Loads
	ids    []int
	limits map[int]limits
	most   int
	plan   api.Plan
}

// begin is a cycle ahead of its first move.
func begin(c api.Conf, x *capa.Capa, l []api.Want) *cycle {
	y := &cycle{wants: l, loads: load.Project(l), limits: map[int]limits{}, most: c.Moves}
	for _, w := range l {
		y.plan.At = append(y.plan.At, place(w))
		y.ways = append(y.ways, load.Taken(w).Iface)
	}
	for _, told := range x.All() {
		id := told.Iface
		y.ids = append(y.ids, id)
		y.limits[id] = limits{low: x.Limit(id, c.Low), high: x.Limit(id, c.High)}
	}
	return y
}

// place is where the detour stands that a want takes.
func place(w api.Want) int {
	if w.At < 0 || w.At >= len(w.Detours) {
		return none
	}
	return w.At
}

// isOverloaded tells whether more goes out by an interface than its limit: as far as one can tell, not of loads that are over.
func (y *cycle) isOverloaded(id int) bool {
	to, told := y.limits[id]
	return told && !y.loads.Over() && y.loads.Of(id) > to.high
}

// goBack lets each want that takes a detour go back to its first choice, if it fits there.
func (y *cycle) goBack() {
	for i, w := range y.wants {
		home := w.First.Iface
		to, told := y.limits[home]
		fits := told && y.loads.Fits(home, w.N, to.low)
		if y.plan.At[i] != none && fits && !y.move(i, none, home) {
			return
		}
	}
}

// move lets the i-th want take what stands at a place, by an interface, if there may be one more move. It leaves ahead of coming, so that no sum is met that never goes out.
func (y *cycle) move(i, at, way int) bool {
	if y.plan.Moves >= y.most {
		y.plan.More = true
		return false
	}
	y.plan.Moves++
	y.loads.Sub(y.ways[i], y.wants[i].N)
	y.loads.Add(way, y.wants[i].N)
	y.plan.At[i], y.ways[i] = at, way
	return true
}

// leavers are the wants that may leave each interface, the greatest first. Those that come to it later need not be among them: by where a want fits, nothing has to leave.
func (y *cycle) leavers() map[int][]int {
	var order []int
	for i, w := range y.wants {
		if w.N > 0 {
			order = append(order, i)
		}
	}
	greater := func(i, j int) int { return cmp.Compare(y.wants[j].N, y.wants[i].N) }
	slices.SortStableFunc(order, greater)
	by := map[int][]int{}
	for _, i := range order {
		by[y.ways[i]] = append(by[y.ways[i]], i)
	}
	return by
}

// round lets wants leave each interface as long as it is overloaded, and tells whether another round may do more.
func (y *cycle) round(leavers map[int][]int) bool {
	before := y.plan.Moves
ifaces:
	for _, id := range y.ids {
		for _, i := range leavers[id] {
			if !y.isOverloaded(id) {
				continue ifaces
			}
			if y.ways[i] == id && !y.leave(i) {
				return false
			}
		}
	}
	return y.plan.Moves > before
}

// leave lets the i-th want take a detour in place of what it takes, if there is one; false, if that would be a move too many.
func (y *cycle) leave(i int) bool {
	at := y.detour(i)
	return at == none || y.move(i, at, y.wants[i].Detours[at].Iface)
}

// detour is where the first detour stands that the i-th want may take in place of what it takes. That one is passed over by its interface.
func (y *cycle) detour(i int) int {
	w := y.wants[i]
	may := func(o api.Option) bool {
		to, told := y.limits[o.Iface]
		return o.Iface != y.ways[i] && told && y.loads.Fits(o.Iface, w.N, to.high)
	}
	return slices.IndexFunc(w.Detours, may)
}
