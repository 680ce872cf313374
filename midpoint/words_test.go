package midpoint_test

import (
	"math/big"
	"slices"

	"vespers/api"
)

// The chapter's words once more: the least and the greatest ones are taken
// out one by one, and all is reckoned in numbers of any size.

// greatest is the greatest value that there is.
const greatest = 4294967296

func number(n int64) *big.Int { return big.NewInt(n) }

// isValue says whether a number is a value.
func isValue(n int64) bool {
	return number(n).Cmp(number(-greatest)) >= 0 && number(n).Cmp(number(greatest)) <= 0
}

// mayTrim says whether l may be trimmed by k.
func mayTrim(l []int64, k int) bool {
	for _, n := range l {
		if !isValue(n) {
			return false
		}
	}
	need := number(int64(k))
	need.Mul(need, number(2)).Add(need, number(1))
	return k >= 0 && number(int64(len(l))).Cmp(need) >= 0
}

// takeOut is the value of a bag that lies ahead of all others, and the bag without it.
func takeOut(bag []int64, ahead func(a, b int64) bool) (int64, []int64) {
	place := 0
	for n := range bag {
		if ahead(bag[n], bag[place]) {
			place = n
		}
	}
	rest := slices.Concat(bag[:place], bag[place+1:])
	return bag[place], rest
}

func isLess(a, b int64) bool { return a < b }
func isMore(a, b int64) bool { return a > b }

// trimmedOf is l trimmed by k, rising.
func trimmedOf(l []int64, k int) (rising []int64) {
	bag := slices.Clone(l)
	for range k {
		_, bag = takeOut(bag, isLess)
		_, bag = takeOut(bag, isMore)
	}
	var next int64
	for len(bag) > 0 {
		next, bag = takeOut(bag, isLess)
		rising = append(rising, next)
	}
	return rising
}

// outer are the least and the greatest one that are left.
func outer(l []int64, k int) (least, most *big.Int) {
	rising := trimmedOf(l, k)
	return number(rising[0]), number(rising[len(rising)-1])
}

// middleOf is the half of the sum of both, rounded down.
func middleOf(l []int64, k int) int64 {
	least, most := outer(l, k)
	half, rest := new(big.Int).QuoRem(least.Add(least, most), number(2), new(big.Int))
	if rest.Sign() < 0 {
		half.Sub(half, number(1))
	}
	return half.Int64()
}

// spreadOf is by how much the one is greater than the other.
func spreadOf(l []int64, k int) int64 {
	least, most := outer(l, k)
	return most.Sub(most, least).Int64()
}

// answers are what all three functions answer.
type answers struct {
	trimmed        []int64
	middle, spread int64
	err            api.Errno
}

// told is what the words say of l and k.
func told(l []int64, k int) answers {
	if !mayTrim(l, k) {
		return answers{err: api.ErrMidpoint}
	}
	return answers{trimmedOf(l, k), middleOf(l, k), spreadOf(l, k), api.OK}
}
