package plan_test

import (
	"math/big"

	"vespers/api"
)

// The chapter's words once more, in numbers of any size: they can't run over,
// and are worked out by nothing that the package has.

func whole(n int64) *big.Int { return big.NewInt(n) }

func sum(numbers ...*big.Int) *big.Int {
	all := new(big.Int)
	for _, n := range numbers {
		all.Add(all, n)
	}
	return all
}

func times(k int64, n *big.Int) *big.Int { return new(big.Int).Mul(whole(k), n) }

// by is a quotient, rounded down, of a divisor above 0.
func by(n, divisor *big.Int) *big.Int { return new(big.Int).Div(n, divisor) }

func from(n, least, most *big.Int) bool { return n.Cmp(least) >= 0 && n.Cmp(most) <= 0 }

func fromTo(n, least, most int64) bool { return from(whole(n), whole(least), whole(most)) }

func roundOf(p api.Plan) *big.Int { return times(int64(p.Nodes), whole(p.Slot)) }

func numbersOf(p api.Plan) (e, g, a *big.Int) {
	e = sum(whole(p.Dmax), times(-1, whole(p.Dmin)), whole(6))
	g = times(2, sum(by(times(2, roundOf(p)), whole(p.Rho)), whole(4)))
	return e, g, times(2, sum(e, g))
}

func leastPi(p api.Plan) *big.Int {
	e, g, a := numbersOf(p)
	return sum(times(2, sum(a, g)), e)
}

func leastWindow(p api.Plan) *big.Int {
	e, _, _ := numbersOf(p)
	return sum(whole(p.Pi), e)
}

func leastCap(p api.Plan) *big.Int {
	e, g, a := numbersOf(p)
	return sum(a, times(2, g), times(2, e))
}

func leastSendOff(p api.Plan) *big.Int { return sum(whole(p.Window), whole(p.Cap), whole(p.Pi)) }

func leastSlot(p api.Plan) *big.Int {
	flight := times(2, sum(whole(p.Dmax), whole(p.Air)))
	return sum(whole(p.SendOff), whole(p.Window), flight, whole(p.Cap), whole(p.Pi), whole(8))
}

func leastDelta(p api.Plan) *big.Int {
	frames := times(-1, by(times(-1, whole(int64(p.Queue))), whole(int64(p.Burst)))) // rounded up
	return sum(new(big.Int).Mul(sum(frames, whole(3)), roundOf(p)), times(2, whole(p.Pi)))
}

// holds says whether the condition of a number holds, if those ahead of it do.
func holds(p api.Plan, n int) bool {
	most := whole(1 << 20)
	switch n {
	case 1:
		enough := whole(int64(p.Nodes)).Cmp(sum(times(2, whole(int64(p.K))), whole(2))) >= 0
		return fromTo(int64(p.Nodes), 4, 16) && p.K >= 0 && enough
	case 2:
		return fromTo(p.Air, 1, 1<<20) && p.Dmin >= 0 && fromTo(p.Dmax, p.Dmin, 1<<20)
	case 3:
		return fromTo(p.Slot, 1, 1<<20) && fromTo(p.Rho, 4, 1<<20)
	case 4:
		return from(whole(p.Pi), leastPi(p), most)
	case 5:
		return from(whole(p.Window), leastWindow(p), most)
	case 6:
		return from(whole(p.Cap), leastCap(p), most)
	case 7:
		return from(whole(p.SendOff), leastSendOff(p), most)
	case 8:
		return whole(p.Slot).Cmp(leastSlot(p)) >= 0
	case 9:
		return fromTo(int64(p.Queue), 1, 64) && fromTo(int64(p.Burst), 1, 8) && fromTo(int64(p.Payload), 1, 32)
	case 10:
		return from(whole(p.Delta), leastDelta(p), times(64, roundOf(p)))
	}
	return from(whole(p.Horizon), times(40, roundOf(p)), whole(1<<31))
}

// failing is the number of the first condition that does not hold.
func failing(p api.Plan) int {
	for n := 1; n <= 11; n++ {
		if !holds(p, n) {
			return n
		}
	}
	return 0
}

// wished is a plan that has what counts of wishes, and nothing else.
func wished(w api.Plan) api.Plan {
	w.Slot, w.SendOff, w.Window, w.Pi, w.Cap, w.Delta, w.Horizon = 0, 0, 0, 0, 0, 0, 0
	return w
}

// spaced is a plan of that slot, with the least of what has to stand in it.
func spaced(p api.Plan, slot int64) api.Plan {
	p.Slot = slot
	p.Pi = leastPi(p).Int64()
	p.Window = leastWindow(p).Int64()
	p.Cap = leastCap(p).Int64()
	p.SendOff = leastSendOff(p).Int64()
	return p
}

// timed is a plan with the least Delta and Horizon.
func timed(p api.Plan) api.Plan {
	p.Delta = leastDelta(p).Int64()
	p.Horizon = times(40, roundOf(p)).Int64()
	return p
}

// tried is the least plan for wishes, and whether there is one: found by
// trying slot by slot.
func tried(wishes api.Plan) (api.Plan, bool) {
	p := wished(wishes)
	p.Slot = 1
	if !holds(p, 1) || !holds(p, 2) || !holds(p, 3) || !holds(p, 9) {
		return api.Plan{}, false
	}
	for slot := int64(1); slot <= 1<<20; slot++ {
		if !mayFit(p, slot) {
			continue
		}
		if least := timed(spaced(p, slot)); failing(least) == 0 {
			return least, true
		}
	}
	return api.Plan{}, false
}

// mayFit says whether wishes that may be go into a slot, as far as the slot's
// length and Delta go: no number runs over here, and numbers of any size
// would take too long to try all slots.
func mayFit(w api.Plan, slot int64) bool {
	round := int64(w.Nodes) * slot
	e := w.Dmax - w.Dmin + 6
	g := 2 * (2*round/w.Rho + 4)
	a := 2 * (e + g)
	pi := 2*(a+g) + e
	window := pi + e
	limit := a + 2*g + 2*e
	sendOff := window + limit + pi
	frames := int64((w.Queue + w.Burst - 1) / w.Burst)
	long := slot >= sendOff+window+2*(w.Dmax+w.Air)+limit+pi+8
	return long && (frames+3)*round+2*pi <= 64*round
}
