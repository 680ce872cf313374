package table_test

import (
	"math/big"

	"vespers/api"
	"vespers/plan"
)

// The chapter's words once more, in numbers of any size: they can't run over,
// and are worked out by nothing that the package has.

func whole(n int64) *big.Int { return big.NewInt(n) }

func sum(numbers ...*big.Int) *big.Int {
	all := new(big.Int)
	for _, n := range numbers {
		all.Add(all, n)
	}
	return all
}

func times(k int64, n *big.Int) *big.Int { return new(big.Int).Mul(whole(k), n) }

// lastRound is the last one that there is.
const lastRound = 2147483647

// ownNode says whether a node is the plan's own.
func ownNode(p api.Plan, node int) bool {
	return plan.Check(p) == api.OK && node >= 0 && node <= p.Nodes-1
}

// ownPlace says whether a place is the plan's own.
func ownPlace(p api.Plan, at api.Place) bool {
	return ownNode(p, at.Slot) && at.Round >= 0 && at.Round <= lastRound
}

// beginOf is when a place begins.
func beginOf(p api.Plan, at api.Place) *big.Int {
	return times(p.Slot, sum(times(int64(p.Nodes), whole(at.Round)), whole(int64(at.Slot))))
}

// ownTime says whether a time is one that lies in a place.
func ownTime(p api.Plan, local int64) bool {
	return plan.Check(p) == api.OK && local >= 0 && whole(local).Cmp(beginOf(p, api.Place{Round: lastRound})) <= 0
}

// placeOf is the place in which a time lies: the last one that does not begin
// behind it, found by halving.
func placeOf(p api.Plan, local int64) api.Place {
	var at api.Place
	for part := int64(1) << 31; part > 0; part /= 2 {
		further := api.Place{Round: at.Round + part}
		if further.Round <= lastRound && beginOf(p, further).Cmp(whole(local)) <= 0 {
			at = further
		}
	}
	for at.Slot+1 < p.Nodes && beginOf(p, api.Place{Round: at.Round, Slot: at.Slot + 1}).Cmp(whole(local)) <= 0 {
		at.Slot++
	}
	return at
}

// nextOf is the place behind one, and whether there is one.
func nextOf(p api.Plan, at api.Place) (api.Place, bool) {
	switch {
	case at.Slot < p.Nodes-1:
		return api.Place{Round: at.Round, Slot: at.Slot + 1}, true
	case at.Round < lastRound:
		return api.Place{Round: at.Round + 1}, true
	}
	return api.Place{}, false
}

// apartOf is how many slots lie from the begin of one place to the begin of
// another one.
func apartOf(p api.Plan, a, b api.Place) *big.Int {
	ticks := sum(beginOf(p, b), times(-1, beginOf(p, a)))
	return new(big.Int).Div(ticks, whole(p.Slot))
}

// fullAt says whether a place's frames are full ones.
func fullAt(at api.Place) bool {
	return sum(whole(at.Round), whole(int64(at.Slot))).Bit(0) == 0
}

// middleOf is half of both delays, rounded down.
func middleOf(p api.Plan) *big.Int {
	return new(big.Int).Div(sum(whole(p.Dmin), whole(p.Dmax)), whole(2))
}

// expectedOf is when a frame is sent, when it is expected, and its window.
func expectedOf(p api.Plan, at api.Place) (sent, mid, opens, closes *big.Int) {
	sent = sum(beginOf(p, at), whole(p.SendOff))
	mid = sum(sent, middleOf(p))
	return sent, mid, sum(mid, times(-1, whole(p.Window))), sum(mid, whole(p.Window))
}

// silentOf is how long a node of that number is silent for some rounds.
func silentOf(p api.Plan, rounds int64, node int) *big.Int {
	return sum(times(rounds*int64(p.Nodes), whole(p.Slot)), times(int64(node), whole(p.Slot)))
}
