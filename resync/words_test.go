package resync_test

import (
	"math/big"

	"vespers/api"
)

// The chapter's words once more: a value that is left is found by how many
// others are less, with nothing sorted, and all is reckoned in numbers of any size.

// The document's limits.
const (
	greatest = 4294967296
	mostTime = 4294967296
	mostRuns = 2147483647
)

func number(n int64) *big.Int { return big.NewInt(n) }

// lies says whether a number is from the one to the other.
func lies(n *big.Int, from, to int64) bool {
	return n.Cmp(number(from)) >= 0 && n.Cmp(number(to)) <= 0
}

// allValues says whether all of them are values.
func allValues(l []int64) bool {
	for _, n := range l {
		if !lies(number(n), -greatest, greatest) {
			return false
		}
	}
	return true
}

// inRow is the value that stands at a place, from 0 on, when all are in a rising row.
func inRow(l []int64, place int) *big.Int {
	for _, one := range l {
		less, same := 0, 0
		for _, other := range l {
			switch number(other).Cmp(number(one)) {
			case -1:
				less++
			case 0:
				same++
			}
		}
		if less <= place && place < less+same {
			return number(one)
		}
	}
	panic("no such place")
}

// areEnough says whether so many are 2 K + 1 at least.
func areEnough(p api.Plan, many int) bool {
	need := number(int64(p.K))
	need.Add(need, number(int64(p.K))).Add(need, number(1))
	return number(int64(many)).Cmp(need) >= 0
}

// correctionBy is the correction, whether sync is lost by it or not.
func correctionBy(p api.Plan, l []int64) *big.Int {
	if !areEnough(p, len(l)) {
		return number(0)
	}
	sum := new(big.Int).Add(inRow(l, p.K), inRow(l, len(l)-1-p.K))
	// Div rounds down by 2, be the sum above 0 or below.
	return sum.Div(sum, number(2)).Neg(sum)
}

// syncMayBe says whether such may have been done.
func syncMayBe(s api.Sync) bool {
	return lies(number(int64(s.Rounds)), 0, mostRuns) &&
		lies(number(int64(s.Set)), 0, int64(s.Rounds)) &&
		lies(number(s.Total), -mostTime, mostTime)
}

// turn is what comes of a round.
type turn struct {
	next api.Sync
	by   int64
	err  api.Errno
}

// corrected is what the words say of the correction, of a plan that may be.
func corrected(p api.Plan, l []int64) (int64, api.Errno) {
	if !allValues(l) {
		return 0, api.ErrResync
	}
	by := correctionBy(p, l)
	if !lies(by, -p.Cap, p.Cap) {
		return 0, api.ErrSync
	}
	return by.Int64(), api.OK
}

// turned is what the words say of a round, by a plan that may be.
func turned(p api.Plan, s api.Sync, l []int64) turn {
	by, err := corrected(p, l)
	switch {
	case err == api.ErrResync || !syncMayBe(s):
		return turn{err: api.ErrResync}
	case err == api.ErrSync || s.Lost:
		return turn{next: api.Sync{Rounds: s.Rounds, Set: s.Set, Total: s.Total, Lost: true}, err: api.ErrSync}
	}
	next := api.Sync{Rounds: s.Rounds + 1, Set: s.Set, Total: s.Total + by}
	if by != 0 {
		next.Set = s.Set + 1
	}
	if !syncMayBe(next) {
		return turn{err: api.ErrResync}
	}
	return turn{next, by, api.OK}
}

// folded is what the words say of rounds, by a plan that may be: the last one
// goes on from what was done behind those ahead of it.
func folded(p api.Plan, rounds [][]int64) (api.Sync, api.Errno) {
	if len(rounds) == 0 {
		return api.Sync{}, api.OK
	}
	last := len(rounds) - 1
	done, err := folded(p, rounds[:last])
	if err != api.OK {
		return done, err
	}
	came := turned(p, done, rounds[last])
	return came.next, came.err
}
