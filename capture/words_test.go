package capture_test

import (
	"math/big"
	"slices"

	"vespers/api"
)

// The chapter's words once more: what was noted stands in the order in which
// it was, and everything is looked up in all of it.

// greatest is the greatest deviation that there is, and nodes are so many.
const (
	greatest = 4294967296
	nodes    = 16
)

// noted is a deviation of a node and a channel.
type noted struct {
	node, channel int
	by            int64
}

// book has what was noted.
type book struct{ notes []noted }

// of is what was noted of a node, on each channel that has one.
func (b *book) of(node int) (all []int64) {
	for _, n := range b.notes {
		if n.node == node {
			all = append(all, n.by)
		}
	}
	return all
}

// mayNote says whether something may be noted.
func (b *book) mayNote(n noted) bool {
	taken := slices.ContainsFunc(b.notes, func(o noted) bool { return o.node == n.node && o.channel == n.channel })
	return !taken && 0 <= n.node && n.node <= nodes-1 && (n.channel == 0 || n.channel == 1) && -greatest <= n.by && n.by <= greatest
}

func (b *book) note(n noted) api.Errno {
	if !b.mayNote(n) {
		return api.ErrCapture
	}
	b.notes = append(b.notes, n)
	return api.OK
}

// halfOf is the half of a sum, rounded down, in numbers of any size.
func halfOf(numbers ...int64) int64 {
	sum := new(big.Int)
	for _, n := range numbers {
		sum.Add(sum, big.NewInt(n))
	}
	half, rest := new(big.Int).QuoRem(sum, big.NewInt(2), new(big.Int))
	if rest.Sign() < 0 {
		half.Sub(half, big.NewInt(1))
	}
	return half.Int64()
}

// deviation is a node's, and whether it has one.
func (b *book) deviation(node int) (int64, bool) {
	switch all := b.of(node); len(all) {
	case 0:
		return 0, false
	case 1:
		return all[0], true
	default:
		return halfOf(all...), true
	}
}

func (b *book) list() (all []api.Deviation) {
	for node := range nodes {
		if by, is := b.deviation(node); is {
			all = append(all, api.Deviation{Node: node, By: by})
		}
	}
	return all
}

func (b *book) values(own int) (all []int64) {
	for node := range nodes {
		by, is := b.deviation(node)
		switch {
		case node == own:
			all = append(all, 0)
		case is:
			all = append(all, by)
		}
	}
	return all
}

func (b *book) forget(node int) bool {
	had := len(b.of(node)) > 0
	b.notes = slices.DeleteFunc(b.notes, func(n noted) bool { return n.node == node })
	return had
}

func (b *book) clear() int {
	many := len(b.list())
	b.notes = nil
	return many
}

func (b *book) copy() *book { return &book{slices.Clone(b.notes)} }
