package window_test

import (
	"math/big"

	"vespers/api"
	"vespers/plan"
)

// The chapter's words once more, in numbers of any size: they can't run over,
// and are worked out by nothing that the package has, nor by the table.

func whole(n int64) *big.Int { return big.NewInt(n) }

func sum(numbers ...*big.Int) *big.Int {
	all := new(big.Int)
	for _, n := range numbers {
		all.Add(all, n)
	}
	return all
}

func less(a, b *big.Int) *big.Int { return new(big.Int).Sub(a, b) }

func product(a, b *big.Int) *big.Int { return new(big.Int).Mul(a, b) }

// lies says whether a number is from the one to the other.
func lies(n, from, to *big.Int) bool { return n.Cmp(from) >= 0 && n.Cmp(to) <= 0 }

// The document's limits.
const (
	lastRound = 2147483647
	mostTime  = 4294967296
	greatest  = 1152921504606846976
)

// isReading says whether a reading may be.
func isReading(reading int64) bool { return lies(whole(reading), whole(-mostTime), whole(greatest)) }

// ownPlace says whether the plan has a place.
func ownPlace(p api.Plan, at api.Place) bool {
	return plan.Check(p) == api.OK && at.Slot >= 0 && at.Slot <= p.Nodes-1 && at.Round >= 0 && at.Round <= lastRound
}

// beginOf is when a place begins.
func beginOf(p api.Plan, at api.Place) *big.Int {
	slots := sum(product(whole(at.Round), whole(int64(p.Nodes))), whole(int64(at.Slot)))
	return product(slots, whole(p.Slot))
}

// middleOf is half of both delays, rounded down.
func middleOf(p api.Plan) *big.Int {
	return new(big.Int).Div(sum(whole(p.Dmin), whole(p.Dmax)), whole(2))
}

// expectedOf is when a place's frame is expected.
func expectedOf(p api.Plan, at api.Place) *big.Int {
	return sum(beginOf(p, at), whole(p.SendOff), middleOf(p))
}

// sight is what is said of a reading.
type sight struct {
	verdict   int
	deviation int64
	err       api.Errno
}

// seenBy is what the words say of a reading: early is 1, in time 2, late 3.
func seenBy(p api.Plan, at api.Place, reading int64) sight {
	if !ownPlace(p, at) || !isReading(reading) {
		return sight{err: api.ErrWindow}
	}
	mid := expectedOf(p, at)
	off := less(whole(reading), mid).Int64()
	opens, closes := less(mid, whole(p.Window)), sum(mid, whole(p.Window))
	switch {
	case whole(reading).Cmp(opens) == -1:
		return sight{1, off, api.OK}
	case whole(reading).Cmp(closes) == 1:
		return sight{3, off, api.OK}
	}
	return sight{2, off, api.OK}
}

// spot is a place, if there is one.
type spot struct {
	at api.Place
	is bool
}

// spotOf is what the words say of a reading's place: the one in whose slot it
// lies, if that is to be told (9), and it is in time there.
func spotOf(p api.Plan, reading int64) spot {
	if plan.Check(p) != api.OK || !lies(whole(reading), whole(0), beginOf(p, api.Place{Round: lastRound})) {
		return spot{}
	}
	slots := new(big.Int).Div(whole(reading), whole(p.Slot))
	round, slot := new(big.Int).DivMod(slots, whole(int64(p.Nodes)), new(big.Int))
	at := api.Place{Round: round.Int64(), Slot: int(slot.Int64())}
	if seenBy(p, at, reading).verdict != 2 {
		return spot{}
	}
	return spot{at, true}
}

// keptOf is what the words say of readings.
func keptOf(p api.Plan, at api.Place, readings []int64) (api.Errno, []int64) {
	if !ownPlace(p, at) {
		return api.ErrWindow, nil
	}
	var kept []int64
	err := api.OK
	for _, reading := range readings {
		seen := seenBy(p, at, reading)
		if seen.err != api.OK {
			err = api.ErrWindow
		}
		if seen.verdict == 2 {
			kept = append(kept, seen.deviation)
		}
	}
	if err != api.OK {
		return err, nil
	}
	return api.OK, kept
}
