package pick_test

import (
	"math"
	"reflect"
	"slices"
	"testing"
	"time"

	"bypath/api"
	"bypath/capa"
	"bypath/conf"
	"bypath/hop"
	"bypath/load"
	"bypath/pick"
)

// carries are interfaces from 0 on that carry so much each, handed to the table from the last one on.
func carries(t *testing.T, caps ...int) *capa.Capa {
	t.Helper()
	var l []api.Iface
	for id := len(caps) - 1; id >= 0; id-- {
		l = append(l, api.Iface{ID: id, Net: api.Prefix{Addr: uint32(id) << 24, Len: 8}, Cap: caps[id]})
	}
	h, e := hop.New(l)
	if e != api.OK {
		t.Fatal(e)
	}
	x, e := capa.New(h)
	if e != api.OK {
		t.Fatal(e)
	}
	return x
}

// tells lets a source say something of interfaces, by a number.
func tells(t *testing.T, x *capa.Capa, seq int, l ...api.Carry) {
	t.Helper()
	if e := x.Take(api.Carries{Seq: seq, L: l}, seq); e != api.OK {
		t.Fatal(l, e)
	}
}

// want is one by an interface, with detours by others, of which it takes the one at a place.
func want(n, first, at int, others ...int) api.Want {
	w := api.Want{N: n, First: option(first), At: at}
	for _, id := range others {
		w.Detours = append(w.Detours, option(id))
	}
	return w
}

// option has lists that have something.
func option(id int) api.Option {
	return api.Option{Iface: id, R: api.Route{Key: api.Key{ID: id}, A: api.Attrs{Path: []api.Segment{{AS: []int{7, id}}}, Comms: []int{id}}}}
}

// settings are First with High, Low, Moves.
func settings(high, low, moves int) api.Conf {
	c := conf.First()
	c.High, c.Low, c.Moves = high, low, moves
	return c
}

// plans asks for a plan, and whether the wants are stuck behind it.
func plans(t *testing.T, c api.Conf, x *capa.Capa, l []api.Want, want api.Plan) {
	t.Helper()
	p := pick.Run(c, x, l)
	if !slices.Equal(p.At, want.At) || p.Moves != want.Moves || p.More != want.More || p.Over != want.Over {
		t.Error(p, "but not", want)
	}
	if !p.More && !pick.Stuck(c, x, pick.With(l, p)) {
		t.Error("not stuck", p)
	}
}

// at is a plan of so many moves that ended by itself.
func at(moves int, l ...int) api.Plan { return api.Plan{At: l, Moves: moves} }

// P22.1: the document's examples.
func TestExample(t *testing.T) {
	x := carries(t, 0, 100, 100)
	plans(t, settings(900, 700, 16), x, []api.Want{want(60, 1, -1, 2), want(50, 1, -1)}, at(1, 0, -1))
	plans(t, settings(900, 700, 16), x, []api.Want{want(60, 1, 0, 2), want(10, 1, -1)}, at(1, -1, -1))
	plans(t, settings(900, 700, 16), x, []api.Want{want(60, 1, 0, 2), want(11, 1, -1)}, at(0, 0, -1))
}

// P22.1: an interface is overloaded above its limit, not at it; a want is moved to where it fits up to the limit, not above it.
func TestLimit(t *testing.T) {
	x := carries(t, 0, 100, 100)
	c := settings(900, 700, 16)
	for _, y := range []struct {
		n, there, moves int
	}{{90, 0, 0}, {91, 0, 0}, {45, 45, 0}, {46, 45, 0}, {46, 44, 1}, {46, 43, 1}} {
		l := []api.Want{want(y.n, 1, -1, 2), want(45, 1, -1), want(y.there, 2, -1)}
		if y.n > 50 {
			l[1].N = 0
		}
		p := at(y.moves, -1, -1, -1)
		p.At[0] += y.moves
		plans(t, c, x, l, p)
	}
	// What is behind the point does not count: 900 thousandths of 11 are 9.
	x = carries(t, 0, 11, 11)
	plans(t, c, x, []api.Want{want(9, 1, -1, 2)}, at(0, -1))
	plans(t, c, x, []api.Want{want(9, 1, -1, 2), want(1, 1, -1)}, at(1, 0, -1))
	plans(t, c, x, []api.Want{want(10, 1, -1, 2)}, at(0, -1))
}

// P22.1: thousandths as of the nearest that may be; a Low above High lets wants go back to where they are moved away again.
func TestThousandths(t *testing.T) {
	x := carries(t, 0, 100, 100)
	l := []api.Want{want(60, 1, 0, 2), want(40, 1, -1, 2), want(0, 2, -1)}
	plans(t, settings(math.MaxInt, math.MaxInt, 16), x, l, at(1, -1, -1, -1))
	plans(t, settings(1000, 999, 16), x, l, at(0, 0, -1, -1))
	plans(t, settings(900, 1000, 16), x, l, at(2, 0, -1, -1))
	plans(t, settings(-5, math.MinInt, 16), x, l, at(0, 0, -1, -1))
	plans(t, settings(0, 0, 16), x, []api.Want{want(0, 1, 0, 2), want(0, 1, -1, 2)}, at(1, -1, -1))
}

// P22.1: a want goes back to where it fits up to Low, in order, to an interface that is told of.
func TestBack(t *testing.T) {
	x := carries(t, 0, 100, 100, 100)
	c := settings(900, 700, 16)
	plans(t, c, x, []api.Want{want(40, 1, 0, 2), want(40, 1, 0, 2), want(30, 1, 1, 2, 3)}, at(2, -1, 0, -1))
	plans(t, c, x, []api.Want{want(40, 1, -1, 2), want(31, 1, 0, 2), want(30, 1, 1, 2, 3)}, at(1, -1, 0, -1))
	plans(t, c, x, []api.Want{want(71, 1, 0, 2)}, at(0, 0))
	plans(t, c, x, []api.Want{want(70, 1, 0, 2)}, at(1, -1))
	// One that goes back makes room for the next one.
	plans(t, c, x, []api.Want{want(60, 1, 0, 2), want(60, 2, 0, 3)}, at(2, -1, -1))
	plans(t, c, x, []api.Want{want(60, 2, 0, 3), want(60, 1, 0, 2)}, at(1, 0, -1))
	// No interface, one that nobody knows, one that is to be left, one that carries nothing.
	plans(t, c, x, []api.Want{want(5, -1, 0, 2), want(5, 4, 0, 2), want(0, 4, 0, 2), want(0, -1, 0, 2), want(0, math.MinInt, 0, 2), want(5, 0, 0, 2)}, at(0, 0, 0, 0, 0, 0, 0))
	plans(t, c, x, []api.Want{want(0, 0, 0, 2), want(-5, 1, 0, 2)}, at(2, -1, -1))
	tells(t, x, 1, api.Carry{Iface: 1, Cap: 100, Drain: true}, api.Carry{Iface: 2, Cap: 50})
	plans(t, c, x, []api.Want{want(5, 1, 0, 3), want(0, 1, 0, 3), want(36, 2, 0, 3), want(35, 2, 0, 3)}, at(2, 0, -1, 0, -1))
}

// P22.1: from where no interface is, or one that nobody knows, a want goes back, but is not moved away.
func TestStrange(t *testing.T) {
	x := carries(t, 0, 100, 100)
	c := settings(900, 700, 16)
	plans(t, c, x, []api.Want{want(50, 1, 0, -1), want(20, 1, 0, 9)}, at(2, -1, -1))
	plans(t, c, x, []api.Want{want(50, -1, -1, 1), want(20, 9, -1, 1), want(80, 1, 0, 9, 2)}, at(0, -1, -1, 0))
	plans(t, c, x, []api.Want{want(95, 1, -1, -1, 9), want(10, 1, -1, 0, -1, 9)}, at(0, -1, -1))
	if l := pick.Overloaded(c, x, []api.Want{want(50, -1, -1, 1), want(20, 9, -1, 1), want(1, 0, -1), want(95, 2, -1)}); !slices.Equal(l, []int{0, 2}) {
		t.Error(l)
	}
}

// P22.1: where a want stands that takes its first choice, whatever At says.
func TestPlace(t *testing.T) {
	x := carries(t, 0, 100, 100)
	for _, n := range []int{math.MinInt, -2, -1, 2, 3, math.MaxInt} {
		plans(t, settings(900, 700, 16), x, []api.Want{want(95, 1, n, 2, 0), want(5, 1, n)}, at(0, -1, -1))
		plans(t, settings(900, 700, 16), x, []api.Want{want(85, 1, n, 2, 0), want(6, 1, n)}, at(1, 0, -1))
	}
	plans(t, settings(900, 700, 16), x, nil, at(0))
	plans(t, settings(900, 700, 16), x, []api.Want{}, at(0))
}

// P22.1: interfaces by their numbers, the greatest wants first, those of one N in order, as long as it is overloaded.
func TestOrder(t *testing.T) {
	x := carries(t, 0, 100, 100, 100, 100)
	c := settings(900, 700, 16)
	// The lower number has its wants moved first, wherever they stand.
	plans(t, c, x, []api.Want{want(50, 2, -1, 3), want(50, 2, -1), want(50, 1, -1, 3), want(50, 1, -1)}, at(1, -1, -1, 0, -1))
	// The greatest one, then the next one.
	plans(t, c, x, []api.Want{want(10, 1, -1, 2), want(40, 1, -1, 2), want(30, 1, -1, 2), want(60, 1, -1, 2)}, at(1, -1, -1, -1, 0))
	plans(t, c, x, []api.Want{want(10, 1, -1, 3), want(60, 1, -1, 2), want(70, 1, -1, 2), want(70, 1, -1, 3)}, at(2, -1, -1, 0, 0))
	// One that does not fit is passed over.
	plans(t, c, x, []api.Want{want(20, 1, -1, 2), want(95, 1, -1, 2), want(30, 1, -1, 2)}, at(2, 0, -1, 0))
	// Those of one N.
	plans(t, c, x, []api.Want{want(40, 1, -1), want(40, 1, -1, 2), want(40, 1, -1, 2)}, at(1, -1, 0, -1))
	// Of 13 of 7, 13 of 6, 14 of 5, which are 239 together, all of 7 go, and the first 10 of 6.
	var l []api.Want
	p := at(23)
	for i := range 40 {
		l = append(l, want(5+i%3, 1, -1, 2))
		p.At = append(p.At, -1)
		if i%3 == 2 || i%3 == 1 && i < 30 {
			p.At[i] = 0
		}
	}
	plans(t, settings(900, 700, 23), carries(t, 0, 100, 200), l, p)
	// Wants of 0, and below, are never moved away.
	plans(t, c, x, []api.Want{want(0, 1, -1, 2), want(-1, 1, -1, 2), want(91, 1, -1), want(math.MinInt, 1, -1, 2)}, at(0, -1, -1, -1, -1))
}

// P22.1: the first detour by another interface, that is told of, where it fits.
func TestDetour(t *testing.T) {
	x := carries(t, 0, 100, 100, 100)
	c := settings(900, 700, 16)
	heavy := want(80, 1, -1)
	plans(t, c, x, []api.Want{want(60, 1, -1, 2, 3), heavy}, at(1, 0, -1))
	plans(t, c, x, []api.Want{want(60, 1, -1, 3, 2), heavy}, at(1, 0, -1))
	plans(t, c, x, []api.Want{want(60, 1, -1, 1, -1, 9, 0, 3, 2), heavy}, at(1, 4, -1))
	plans(t, c, x, []api.Want{want(60, 1, -1, 2, 3), heavy, want(31, 2, -1)}, at(1, 1, -1, -1))
	plans(t, c, x, []api.Want{want(60, 1, -1, 2, 3), heavy, want(30, 2, -1)}, at(1, 0, -1, -1))
	// From a detour to another one, also to one that stands ahead of it.
	plans(t, c, x, []api.Want{want(60, 1, 1, 3, 2), want(80, 2, -1), heavy}, at(1, 0, -1, -1))
	plans(t, c, x, []api.Want{want(60, 1, 0, 2, 3), want(80, 2, -1), heavy}, at(1, 1, -1, -1))
	plans(t, c, x, []api.Want{want(60, 1, 0, 2, 2), want(80, 2, -1), heavy}, at(0, 0, -1, -1))
	// Nothing goes back to its first choice above Low, even from an overloaded interface.
	plans(t, c, x, []api.Want{want(10, 1, 0, 2), want(85, 2, -1), want(65, 1, -1)}, at(0, 0, -1, -1))
	// One that is to be left carries nothing, and is left.
	tells(t, x, 1, api.Carry{Iface: 2, Cap: 100, Drain: true})
	plans(t, c, x, []api.Want{want(60, 1, -1, 2, 3), heavy, want(1, 2, -1, 3), want(0, 2, -1, 3)}, at(2, 1, -1, 0, -1))
	tells(t, x, 2, api.Carry{Iface: 2, Cap: 60}, api.Carry{Iface: 3, Cap: 1000}, api.Carry{Iface: 1, Cap: 200})
	plans(t, c, x, []api.Want{want(60, 1, -1, 2, 3), want(130, 1, -1, 2, 3)}, at(1, -1, 1))
}

// P22.1: what is moved later makes room for what stands ahead: there are further rounds, until nothing is changed in a whole one.
func TestRounds(t *testing.T) {
	x := carries(t, 0, 100, 100, 100)
	c := settings(900, 700, 16)
	plans(t, c, x, []api.Want{want(20, 1, -1, 2), want(75, 1, -1), want(80, 2, -1, 3), want(15, 2, -1)}, at(2, 0, -1, 0, -1))
	plans(t, c, x, []api.Want{want(20, 1, -1, 2), want(75, 1, -1), want(80, 2, -1), want(15, 2, -1, 3)}, at(1, -1, -1, -1, 0))
	plans(t, c, x, []api.Want{want(10, 1, -1, 2), want(85, 1, -1), want(80, 2, -1), want(15, 2, -1, 3)}, at(2, 0, -1, -1, 0))
	// The other way round one round does it.
	plans(t, c, x, []api.Want{want(20, 3, -1, 2), want(75, 3, -1), want(80, 2, -1, 1), want(15, 2, -1)}, at(2, 0, -1, 0, -1))
}

// Each interface of a chain makes room for the one ahead of it, so that there is one round for each.
func TestChain(t *testing.T) {
	x := carries(t, 100, 100, 100, 100, 100, 100, 100, 100)
	l := []api.Want{want(80, 7, -1)}
	p := at(7, -1)
	for id := range 7 {
		l = append(l, want(id+1, id, -1, id+1), want(90-id, id, -1))
		p.At = append(p.At, 0, -1)
	}
	plans(t, settings(900, 700, 16), x, l, p)
	plans(t, settings(900, 700, 7), x, l, p)
	p.At[1], p.Moves, p.More = -1, 6, true
	plans(t, settings(900, 700, 6), x, l, p)
	p.At[3], p.At[5], p.Moves = -1, -1, 4
	plans(t, settings(900, 700, 4), x, l, p)
}

// P22.1, P22.2: no more than Moves moves, those back and those away; More, if one more would be done.
func TestMoves(t *testing.T) {
	x := carries(t, 0, 100, 100, 100)
	l := []api.Want{want(30, 3, 0, 1), want(40, 1, -1, 2), want(30, 3, 0, 1), want(40, 1, -1, 2), want(40, 1, -1)}
	for moves, p := range map[int]api.Plan{
		math.MinInt: {At: []int{0, -1, 0, -1, -1}, More: true}, -1: {At: []int{0, -1, 0, -1, -1}, More: true}, 0: {At: []int{0, -1, 0, -1, -1}, More: true},
		1: {At: []int{-1, -1, 0, -1, -1}, Moves: 1, More: true}, 2: {At: []int{-1, -1, -1, -1, -1}, Moves: 2, More: true},
		3: at(3, -1, 0, -1, -1, -1), 4: at(3, -1, 0, -1, -1, -1), math.MaxInt: at(3, -1, 0, -1, -1, -1),
	} {
		plans(t, settings(900, 700, moves), x, l, p)
	}
	for _, moves := range []int{math.MinInt, -1, 0, 1} {
		plans(t, settings(900, 700, moves), x, []api.Want{want(60, 1, -1, 2), want(71, 1, 0, 2), want(0, 1, -1, 2)}, at(0, -1, 0, -1))
	}
	// What is at an end goes on to no further interface.
	two := []api.Want{want(50, 1, -1, 3), want(50, 1, -1), want(50, 2, -1, 0), want(50, 2, -1, 3)}
	plans(t, settings(900, 700, 1), carries(t, 100, 100, 100, 100), two, api.Plan{At: []int{0, -1, -1, -1}, Moves: 1, More: true})
}

// P22.1: of loads that are over nothing is changed, nothing is overloaded, and the wants are stuck.
func TestOver(t *testing.T) {
	x := carries(t, 0, 100, 100, api.MaxSum)
	c := settings(900, 700, 16)
	for _, big := range []api.Want{want(api.MaxSum, 3, -1), want(math.MaxInt, 3, -1, 1), want(api.MaxSum, -1, -1), want(api.MaxSum, 1, 0, 9)} {
		l := []api.Want{want(5, 1, 0, 2), want(95, 1, -1, 2), big, want(95, 1, 8, 2)}
		place := big.At
		plans(t, c, x, l, api.Plan{At: []int{0, -1, place, -1}, Over: true})
		plans(t, c, nil, l, api.Plan{At: []int{0, -1, place, -1}, Over: true})
		if got := pick.Overloaded(c, x, l); len(got) != 0 || !pick.Stuck(c, x, l) {
			t.Error(got)
		}
	}
	half := api.MaxSum/2 + 1
	plans(t, c, x, []api.Want{want(half, 3, -1), want(95, 1, -1, 2), want(half-1, 3, -1)}, api.Plan{At: []int{-1, -1, -1}, Over: true})
	plans(t, c, x, []api.Want{want(half, 3, -1), want(80, 1, -1, 2), want(half-2, 2, -1), want(20, 1, -1, 0, 3)}, at(1, -1, -1, -1, 1))
}

// P22.1: up to a limit of MaxSum anything fits, as sums are capped there; the loads are over then, and nothing fits any more. Below such a limit a sum of MaxSum does not fit.
func TestMaxSum(t *testing.T) {
	x := carries(t, 0, 10, api.MaxSum, 100)
	c := settings(1000, 1000, 16)
	for _, y := range []struct {
		n    int
		plan api.Plan
	}{
		{api.MaxSum - 1, at(1, 0, -1, -1)}, {api.MaxSum - 19, at(1, 0, -1, -1)}, {api.MaxSum - 20, at(1, 0, -1, -1)}, {api.MaxSum - 21, at(2, 0, 0, -1)},
	} {
		plans(t, c, x, []api.Want{want(20, 1, -1, 2, 3), want(15, 1, -1, 3), want(y.n, 2, -1)}, y.plan)
	}
	for _, n := range []int{api.MaxSum - 1, api.MaxSum - 19, api.MaxSum - 20} {
		plans(t, c, x, []api.Want{want(20, 2, 0, 1), want(15, 1, -1, 3), want(n, 2, -1)}, at(1, -1, -1, -1))
	}
	plans(t, c, x, []api.Want{want(20, 2, 0, 1), want(15, 1, -1, 3), want(api.MaxSum-21, 2, -1)}, at(2, -1, 0, -1))
	x = carries(t, 0, 10, api.MaxSum-1, 100)
	for _, n := range []int{api.MaxSum - 1, api.MaxSum - 19, api.MaxSum - 20} {
		plans(t, c, x, []api.Want{want(20, 1, -1, 2, 3), want(15, 1, -1, 3), want(n, 2, -1)}, at(2, 1, 0, -1))
		plans(t, c, x, []api.Want{want(20, 2, 0, 1), want(15, 1, -1, 3), want(n, 2, -1)}, at(1, 0, 0, -1))
	}
}

// P22.1: loads that come to be over within a cycle leave nothing to move, and nothing overloaded: the plan is neither More nor Over.
func TestOverWithin(t *testing.T) {
	x := carries(t, 0, 10, api.MaxSum, 100)
	l := []api.Want{want(20, 1, -1, 2), want(30, 1, -1, 3), want(api.MaxSum-5, 2, -1), want(200, 3, -1, 1, 2)}
	for _, moves := range []int{1, 2, 16} {
		plans(t, settings(1000, 1000, moves), x, l, at(1, 0, -1, -1, -1))
	}
	behind := pick.With(l, at(1, 0))
	if ids := pick.Overloaded(settings(1000, 1000, 16), x, behind); len(ids) != 0 {
		t.Error(ids)
	}
	plans(t, settings(1000, 1000, 16), x, behind, api.Plan{At: []int{0, -1, -1, -1}, Over: true})
}

// P22.1: what goes back stands beside itself where its first choice has the interface of its detour: it fits there once more, or stays.
func TestSameInterface(t *testing.T) {
	x := carries(t, 0, 100, api.MaxSum)
	c := settings(900, 700, 16)
	plans(t, c, x, []api.Want{want(35, 1, 0, 1)}, at(1, -1))
	plans(t, c, x, []api.Want{want(36, 1, 0, 1)}, at(0, 0))
	plans(t, c, x, []api.Want{want(35, 1, 0, 1), want(35, 1, 0, 1)}, at(0, 0, 0))
	// Its sum is never twice its N.
	half := api.MaxSum/2 + 1
	for _, n := range []int{half - 2, half - 1, half, api.MaxSum - 100} {
		plans(t, settings(1000, 1000, 16), x, []api.Want{want(n, 2, 0, 2), want(1, 2, -1), want(60, 1, -1, 2), want(60, 1, -1, 2)}, at(2, -1, -1, 0, -1))
	}
}

// P22.1: the interfaces that are overloaded, by their numbers.
func TestOverloaded(t *testing.T) {
	x := carries(t, 0, 100, 100, 100, 100)
	for _, y := range []struct {
		high int
		l    []api.Want
		ids  []int
	}{
		{900, nil, nil}, {900, []api.Want{want(90, 1, -1)}, nil}, {900, []api.Want{want(91, 1, -1)}, []int{1}}, {910, []api.Want{want(91, 1, -1)}, nil},
		{900, []api.Want{want(91, 4, -1), want(91, 1, 0, 3), want(1, 0, -1), want(90, 2, -1)}, []int{0, 3, 4}},
		{900, []api.Want{want(50, 4, -1), want(50, 1, 1, 3, 4), want(50, 2, 5, 3)}, []int{4}}, {900, []api.Want{want(50, 9, -1), want(50, -1, -1), want(0, 0, -1)}, nil},
		{0, []api.Want{want(1, 1, -1), want(0, 2, -1)}, []int{1}}, {-7, []api.Want{want(1, 1, -1), want(0, 2, -1)}, []int{1}},
		{1000, []api.Want{want(100, 1, -1), want(101, 2, -1)}, []int{2}}, {math.MaxInt, []api.Want{want(100, 1, -1), want(101, 2, -1)}, []int{2}},
	} {
		if ids := pick.Overloaded(settings(y.high, 0, 1), x, y.l); !slices.Equal(ids, y.ids) {
			t.Error(y, ids)
		}
	}
	tells(t, x, 1, api.Carry{Iface: 2, Cap: 9, Drain: true}, api.Carry{Iface: 1, Cap: 10})
	if ids := pick.Overloaded(settings(900, 0, 1), x, []api.Want{want(1, 2, -1), want(10, 1, -1), want(90, 3, -1)}); !slices.Equal(ids, []int{1, 2}) {
		t.Error(ids)
	}
}

// P22.1: is there a want above 0 on an overloaded interface that could be moved?
func TestStuck(t *testing.T) {
	x := carries(t, 0, 100, 100, 100)
	for _, y := range []struct {
		l    []api.Want
		want bool
	}{
		{nil, true}, {[]api.Want{want(90, 1, -1, 2)}, true}, {[]api.Want{want(91, 1, -1, 2)}, true}, {[]api.Want{want(90, 1, -1, 2), want(1, 1, -1)}, false},
		{[]api.Want{want(90, 1, -1), want(1, 1, -1, 2)}, false}, {[]api.Want{want(90, 1, -1), want(1, 1, -1, 1, 0, -1, 9)}, true},
		{[]api.Want{want(91, 1, -1), want(0, 1, -1, 2), want(-5, 1, -1, 2)}, true}, {[]api.Want{want(60, 1, 0, 2, 3), want(60, 2, -1)}, false},
		{[]api.Want{want(60, 1, 1, 3, 2), want(60, 2, -1), want(31, 3, -1)}, true}, {[]api.Want{want(60, 1, 1, 3, 2), want(60, 2, -1), want(30, 3, -1)}, false},
		{[]api.Want{want(60, 1, 0, 2), want(60, 2, -1)}, true}, {[]api.Want{want(10, 1, 0, 2)}, true},
		{[]api.Want{want(60, 9, -1, 2), want(60, -1, -1, 2)}, true}, {[]api.Want{want(60, 9, 0, -1, 2), want(60, 3, -1, 2)}, true},
	} {
		if got := pick.Stuck(settings(900, 700, 0), x, y.l); got != y.want {
			t.Error(y, got)
		}
		if !pick.Stuck(settings(900, 700, 0), nil, y.l) {
			t.Error(y, "nothing carries")
		}
	}
}

// P22.1: of a nil x nothing fits, and nothing is overloaded.
func TestNil(t *testing.T) {
	c := settings(900, 700, 16)
	for _, x := range []*capa.Capa{nil, new(capa.Capa)} {
		l := []api.Want{want(60, 1, 0, 2), want(0, 1, 1, 2, 3), want(60, 2, -1, 1), want(60, 2, 7, 1)}
		plans(t, c, x, l, at(0, 0, 1, -1, -1))
		plans(t, c, x, nil, at(0))
		if ids := pick.Overloaded(c, x, l); len(ids) != 0 {
			t.Error(ids)
		}
	}
}

// P22.1: wants as a plan says, and as they were, where it says nothing.
func TestWith(t *testing.T) {
	l := func() []api.Want { return []api.Want{want(1, 1, 0, 2, 3), want(2, 1, -1, 2), want(3, 1, 5)} }
	for _, ats := range [][]int{nil, {}, {1}, {-1, 0}, {1, 1, -1}, {7, math.MinInt, math.MaxInt}, {1, 0, 5, 3, 4}} {
		expect := l()
		for i := range expect {
			if i < len(ats) {
				expect[i].At = ats[i]
			}
		}
		from := l()
		got := pick.With(from, api.Plan{At: ats, Moves: 9, More: true, Over: true})
		if !reflect.DeepEqual(got, expect) {
			t.Error(ats, got)
		}
		got[0].Detours[0].R.A.Comms[0], got[0].Detours[1], got[1].First.R.A.Path[0].AS[0] = 99, api.Option{}, 99
		got[2].At = 99
		if !reflect.DeepEqual(from, l()) {
			t.Error("the answer shares with", from)
		}
	}
	if got := pick.With(nil, at(1, 0)); len(got) != 0 {
		t.Error(got)
	}
}

// R3, R4: nothing that is handed in is changed, or looked at behind its end; the same is answered again.
func TestSame(t *testing.T) {
	x := carries(t, 0, 100, 100, 100)
	l := func() []api.Want {
		return []api.Want{want(60, 1, -1, 2, 3), want(60, 1, -1, 3), want(20, 3, 0, 1), want(60, 2, 9, 1), want(500, 1, -1, 2)}
	}
	c := settings(900, 700, 16)
	from := l()
	first := pick.Run(c, x, from[:4])
	for range 20 {
		p := pick.Run(c, x, from[:4])
		if !reflect.DeepEqual(p, first) || !pick.Stuck(c, x, pick.With(from[:4], p)) || len(pick.Overloaded(c, x, from[:4])) != 1 {
			t.Fatal(p)
		}
		p.At[0] = 77
	}
	if !reflect.DeepEqual(from, l()) {
		t.Error(from)
	}
}

// next is a number that hangs on the seed alone.
func next(seed *uint64, below int) int {
	*seed = *seed*6364136223846793005 + 1442695040888963407
	return int(*seed>>33) % below
}

// model is a cycle just as the chapter's words say, with everything counted anew each time.
type model struct {
	c     api.Conf
	x     *capa.Capa
	l     []api.Want
	moves int
	more  bool
}

func (m *model) way(i int) int { return load.Taken(m.l[i]).Iface }

func (m *model) load(id int) int {
	sum := 0
	for i, w := range m.l {
		if m.way(i) == id {
			sum = min(sum+max(w.N, 0), api.MaxSum)
		}
	}
	return sum
}

// over tells whether a number, or a sum, is MaxSum.
func (m *model) over() bool {
	for i, w := range m.l {
		if w.N >= api.MaxSum || m.way(i) >= 0 && m.load(m.way(i)) == api.MaxSum {
			return true
		}
	}
	return false
}

func (m *model) fits(id, n, permille int) bool {
	_, told := m.x.Get(id)
	return told && !m.over() && min(m.load(id)+max(n, 0), api.MaxSum) <= m.x.Limit(id, permille)
}

func (m *model) overloaded(id int) bool {
	_, told := m.x.Get(id)
	return told && !m.over() && m.load(id) > m.x.Limit(id, m.c.High)
}

// other is the first detour that the i-th want may take, or below 0.
func (m *model) other(i int) int {
	w := m.l[i]
	for k, o := range w.Detours {
		if k != w.At && o.Iface != m.way(i) && m.fits(o.Iface, w.N, m.c.High) {
			return k
		}
	}
	return -1
}

// move tells whether the cycle goes on.
func (m *model) move(i, at int) bool {
	if m.moves >= m.c.Moves {
		m.more = true
		return false
	}
	m.moves++
	m.l[i].At = at
	return true
}

// on are the wants above 0 of an interface, the greatest first.
func (m *model) on(id int) []int {
	var l []int
	for i, w := range m.l {
		if w.N <= 0 || m.way(i) != id {
			continue
		}
		k := 0
		for k < len(l) && m.l[l[k]].N >= w.N {
			k++
		}
		l = slices.Insert(l, k, i)
	}
	return l
}

func (m *model) run() {
	for i, w := range m.l {
		if w.At >= len(w.Detours) {
			m.l[i].At = -1
		}
	}
	for i, w := range m.l {
		if w.At >= 0 && m.fits(w.First.Iface, w.N, m.c.Low) && !m.move(i, -1) {
			return
		}
	}
	for again := true; again; {
		again = false
		for _, y := range m.x.All() {
			for _, i := range m.on(y.Iface) {
				k := m.other(i)
				if !m.overloaded(y.Iface) || k < 0 {
					continue
				}
				if !m.move(i, k) {
					return
				}
				again = true
			}
		}
	}
}

// stuck asks each want by itself.
func (m *model) stuck() bool {
	for i, w := range m.l {
		if w.N > 0 && m.overloaded(m.way(i)) && m.other(i) >= 0 {
			return false
		}
	}
	return true
}

// anyWants go out by few interfaces, some of which nobody knows.
func anyWants(seed *uint64) []api.Want {
	var l []api.Want
	for range next(seed, 14) {
		w := want(next(seed, 40)-2, next(seed, 8)-1, next(seed, 5)-1)
		for range next(seed, 4) {
			w.Detours = append(w.Detours, option(next(seed, 8)-1))
		}
		if next(seed, 4) == 0 {
			w.N = 10
		}
		l = append(l, w)
	}
	return l
}

// greater makes some of any wants about as great as may be, or half of that.
func greater(seed *uint64, l []api.Want) {
	for i := range l {
		switch next(seed, 12) {
		case 0:
			l[i].N = api.MaxSum - 80 + next(seed, 81)
		case 1:
			l[i].N = api.MaxSum/2 - 10 + next(seed, 20)
		}
	}
}

// mostCarries are of six interfaces, of which some carry as much as may be, or a little less.
func mostCarries(t *testing.T, seed *uint64) *capa.Capa {
	caps := make([]int, 6)
	for id := range caps {
		caps[id] = next(seed, 120)
		if next(seed, 3) > 0 {
			caps[id] = api.MaxSum - next(seed, 4)/2*next(seed, 40)
		}
	}
	return carries(t, caps...)
}

// anyCarries are of six interfaces, of which some are to be left.
func anyCarries(t *testing.T, seed *uint64) *capa.Capa {
	x := carries(t, next(seed, 120), next(seed, 120), next(seed, 80), next(seed, 80), next(seed, 60), next(seed, 60))
	if next(seed, 3) == 0 {
		tells(t, x, 0, api.Carry{Iface: next(seed, 6), Cap: 100, Drain: next(seed, 2) == 0})
	}
	return x
}

// P22.1: any wants, held against the model.
func TestModel(t *testing.T) {
	seed := uint64(22)
	for round := range 6000 {
		x, l := anyCarries(t, &seed), anyWants(&seed)
		c := settings(next(&seed, 1001), next(&seed, 1001), next(&seed, 12)-1)
		if round%2 == 0 {
			c.Low, c.High = min(c.Low, c.High), max(c.Low, c.High)
		}
		modelled(t, c, x, l)
	}
}

// P22.1: likewise, where sums come near MaxSum, and beyond it.
func TestModelGreat(t *testing.T) {
	seed := uint64(35)
	for range 3000 {
		x, l := mostCarries(t, &seed), anyWants(&seed)
		greater(&seed, l)
		c := settings(1000-next(&seed, 3)/2*next(&seed, 600), 1000-next(&seed, 3)/2*next(&seed, 600), next(&seed, 12)-1)
		modelled(t, c, x, l)
	}
}

// modelled holds a cycle against the model's.
func modelled(t *testing.T, c api.Conf, x *capa.Capa, l []api.Want) {
	t.Helper()
	m := model{c: c, x: x, l: slices.Clone(l)}
	over := m.over()
	if got, is := pick.Stuck(c, x, l), m.stuck(); got != is {
		t.Fatal(l, got)
	}
	m.run()
	p := pick.Run(c, x, l)
	for i, w := range m.l {
		if p.At[i] != w.At {
			t.Fatal(c.High, c.Low, c.Moves, l, p, m)
		}
	}
	if len(p.At) != len(l) || p.Moves != m.moves || p.More != m.more || p.Over != over {
		t.Fatal(l, p, m)
	}
	follows(t, c, x, l, p)
}

// P22.2: no interface is overloaded that was not, wants are stuck, no more are moved than may be; nothing goes back but where it fits up to Low.
func follows(t *testing.T, c api.Conf, x *capa.Capa, l []api.Want, p api.Plan) {
	t.Helper()
	behind := pick.With(l, p)
	was := pick.Overloaded(c, x, l)
	for _, id := range pick.Overloaded(c, x, behind) {
		if c.Low <= c.High && !slices.Contains(was, id) {
			t.Fatal(id, "was not overloaded", l, p)
		}
	}
	if !p.More && !p.Over && !pick.Stuck(c, x, behind) {
		t.Fatal("not stuck", l, p)
	}
	if p.Moves > max(c.Moves, 0) {
		t.Fatal("too many", l, p)
	}
	for i, w := range l {
		back := p.At[i] < 0 && w.At >= 0 && w.At < len(w.Detours)
		if back && max(w.N, 0) > x.Limit(w.First.Iface, c.Low) {
			t.Fatal("does not fit", w, p)
		}
	}
}

// many are about as many wants and interfaces as there may be. All interfaces but the last one are overloaded by 1, and a small want of each fits by the next one only when that one's has gone; no other want fits anywhere.
func many(t *testing.T) (*capa.Capa, []api.Want) {
	const great = 20000
	last := api.MaxIfaces - 1
	each := api.MaxWants/last - 1
	var l []api.Want
	var caps []int
	for id := range last {
		for range each {
			w := want(great, id, -1)
			for k := range 15 {
				w.Detours = append(w.Detours, option((id+k)%last))
			}
			l = append(l, w)
		}
		l = append(l, want(id+1, id, -1, id+1))
		caps = append(caps, each*great+id)
	}
	return carries(t, append(caps, last)...), l
}

// P22.1: as many rounds as there are interfaces, of as many wants as there may be, are over soon.
func TestMany(t *testing.T) {
	x, l := many(t)
	c := settings(1000, 700, api.MaxMoves)
	begun := time.Now()
	p := pick.Run(c, x, l)
	if took := time.Since(begun); took > 20*time.Second || p.Moves != api.MaxIfaces-1 {
		t.Error(took, p.Moves)
	}
	follows(t, c, x, l, p)
}

// R1: whatever the wants are, no call panics, and what is promised follows.
func FuzzRun(f *testing.F) {
	f.Add([]byte("abcdefghijklmnopqrstuvwxyz"), 900, 700, 16)
	f.Add([]byte{1, 0, 200, 0, 2, 5, 0, 1, 250, 1, 1}, math.MaxInt, math.MinInt, -1)
	f.Fuzz(func(t *testing.T, data []byte, high, low, moves int) {
		x := carries(t, 100, 200, 300, api.MaxSum)
		sizes := []int{0, 1, 5, 20, 50, 100, 150, 500, -1, math.MinInt, api.MaxSum - 1, api.MaxSum / 2, api.MaxSum, math.MaxInt}
		var l []api.Want
		for len(data) >= 6 {
			l = append(l, want(sizes[int(data[0])%12+int(data[0])/250], int(data[1]%6)-1, int(int8(data[2])), int(data[3]%6)-1, int(data[4]%6)-1, int(data[5]%6)-1))
			data = data[6:]
		}
		for _, c := range []api.Conf{settings(high, low, moves), settings(max(high, low), min(high, low), moves)} {
			p := pick.Run(c, x, l)
			if len(p.At) != len(l) || p.Over != load.Project(l).Over() || p.Over && (p.Moves != 0 || p.More) {
				t.Fatal(p)
			}
			follows(t, c, x, l, p)
		}
	})
}
