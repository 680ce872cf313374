package group

import (
	"math"
	"slices"
	"testing"
)

func TestFollowingTellsAllInTurn(t *testing.T) {
	for n := range 16 {
		var want []int
		for m := n + 1; m < 16; m++ {
			want = append(want, m)
		}
		for m := 0; m <= n; m++ {
			want = append(want, m)
		}
		if told := slices.Collect(following(n)); !slices.Equal(told, want) {
			t.Errorf("from %d on: told %v, want %v", n, told, want)
		}
	}
}

// Who ranges over the nodes that follow may leave at each of them.
func TestFollowingMayBeLeft(t *testing.T) {
	for many := 1; many <= 16; many++ {
		var told []int
		for m := range following(13) {
			told = append(told, m)
			if len(told) == many {
				break
			}
		}
		if want := []int{14, 15, 0, 1, 2, 3, 4, 5, 6, 7, 8, 9, 10, 11, 12, 13}[:many]; !slices.Equal(told, want) {
			t.Errorf("told %v, want %v", told, want)
		}
	}
}

func TestNothingFollowsFromNoNode(t *testing.T) {
	for _, n := range []int{math.MinInt, -16, -1, 16, 31, math.MaxInt} {
		if told := slices.Collect(following(n)); len(told) != 0 {
			t.Errorf("from %d on: told %v", n, told)
		}
	}
}
