package midpoint_test

import (
	"math"
	"math/rand"
	"slices"
	"testing"

	"vespers/api"
	"vespers/midpoint"
)

// farBy are numbers that no value is.
var farBy = []int64{
	math.MinInt64, math.MinInt64 + 1, -1 << 62, -1 << 33, -greatest - 2, -greatest - 1,
	greatest + 1, greatest + 2, 1 << 33, 1 << 62, math.MaxInt64 - 1, math.MaxInt64,
}

// edges are values, the least and the greatest among them.
var edges = []int64{
	-greatest, -greatest + 1, -greatest + 2, -1 << 31, -1000, -3, -2, -1, 0,
	1, 2, 3, 1000, 1 << 31, greatest - 2, greatest - 1, greatest,
}

// farK are numbers by which nothing is trimmed, also where twice of them runs over.
var farK = []int{
	math.MinInt, math.MinInt + 1, -1 << 62, -1 << 32, -1 << 31, -1000, -3, -2, -1,
	1000, 1<<31 - 1, 1 << 31, 1 << 32, 1<<62 - 1, 1 << 62, 1<<62 + 1, math.MaxInt - 1, math.MaxInt,
}

// check asks all three functions, and wants what was said of l and k.
func check(t *testing.T, l []int64, k int, want answers) {
	t.Helper()
	before := slices.Clone(l)
	trimmed, err := midpoint.Trim(l, k)
	if !slices.Equal(trimmed, want.trimmed) || err != want.err {
		t.Errorf("Trim of %v, k %d: %v, error %d; want %v, error %d", l, k, trimmed, err, want.trimmed, want.err)
	}
	middle, err := midpoint.Of(l, k)
	if middle != want.middle || err != want.err {
		t.Errorf("Of %v, k %d: %d, error %d; want %d, error %d", l, k, middle, err, want.middle, want.err)
	}
	spread, err := midpoint.Spread(l, k)
	if spread != want.spread || err != want.err {
		t.Errorf("Spread of %v, k %d: %d, error %d; want %d, error %d", l, k, spread, err, want.spread, want.err)
	}
	if !slices.Equal(l, before) {
		t.Errorf("k %d: what was handed in is %v, and was %v", k, l, before)
	}
}

// wants wants numbers of l and k, from the functions and from the words.
func wants(t *testing.T, l []int64, k int, trimmed []int64, middle, spread int64) {
	t.Helper()
	check(t, l, k, answers{trimmed, middle, spread, api.OK})
	by := told(l, k)
	if !slices.Equal(by.trimmed, trimmed) || by.middle != middle || by.spread != spread || by.err != api.OK {
		t.Errorf("%v, k %d, by the words: %+v; want %v, %d, %d", l, k, by, trimmed, middle, spread)
	}
}

// refuses wants the error alone.
func refuses(t *testing.T, l []int64, k int) {
	t.Helper()
	check(t, l, k, answers{err: api.ErrMidpoint})
	if mayTrim(l, k) {
		t.Errorf("%v may be trimmed by %d, by the words", l, k)
	}
}

// fits wants what the words say, and that this is no error.
func fits(t *testing.T, l []int64, k int) {
	t.Helper()
	want := told(l, k)
	if want.err != api.OK {
		t.Errorf("%v may not be trimmed by %d, by the words", l, k)
	}
	check(t, l, k, want)
}

// middle is the midpoint, of what may be.
func middle(t *testing.T, l []int64, k int) int64 {
	t.Helper()
	m, err := midpoint.Of(l, k)
	if err != api.OK {
		t.Fatalf("Of %v, k %d: error %d", l, k, err)
	}
	return m
}

// some is so many values, often ones at an edge, and often the same.
func some(r *rand.Rand, many int) []int64 {
	l := make([]int64, many)
	for n := range l {
		switch r.Intn(4) {
		case 0:
			l[n] = edges[r.Intn(len(edges))]
		case 1:
			l[n] = r.Int63n(2*greatest+1) - greatest
		case 2:
			l[n] = r.Int63n(7) - 3
		default:
			l[n] = r.Int63n(2001) - 1000
		}
	}
	return l
}

// near is a value that is off another one by at most so much.
func near(r *rand.Rand, value, by int64) int64 {
	return max(-greatest, min(greatest, value+r.Int63n(2*by+1)-by))
}

// shuffled is a list in any order.
func shuffled(r *rand.Rand, l []int64) []int64 {
	mixed := slices.Clone(l)
	r.Shuffle(len(mixed), func(a, b int) { mixed[a], mixed[b] = mixed[b], mixed[a] })
	return mixed
}

// risingTo is 1, 2, 3, .. .
func risingTo(many int) (l []int64) {
	for n := range many {
		l = append(l, int64(n+1))
	}
	return l
}

func TestExamples(t *testing.T) {
	wants(t, []int64{5, 1, 9}, 1, []int64{5}, 5, 0)
	wants(t, []int64{5, 1, 9}, 0, []int64{1, 5, 9}, 5, 8)
	wants(t, []int64{4, -7}, 0, []int64{-7, 4}, -2, 11)
	wants(t, []int64{3, 1, 2, 9, -50}, 1, []int64{1, 2, 3}, 2, 2)
	refuses(t, []int64{4, -7}, 1)
	refuses(t, nil, 0)
}

func TestLimits(t *testing.T) {
	if api.OK != 0 || api.ErrMidpoint != 140 || api.MaxDeviation != greatest {
		t.Error("other numbers than the document's")
	}
}

// P14.1: one value is left as it is.
func TestOneValue(t *testing.T) {
	for _, n := range edges {
		wants(t, []int64{n}, 0, []int64{n}, n, 0)
	}
}

// P14.1: of 2 k + 1 values the middle one is left, of 2 k + 2 both that are.
func TestAsFewAsMayBe(t *testing.T) {
	r := rand.New(rand.NewSource(141))
	for k := range 40 {
		odd, even := risingTo(2*k+1), risingTo(2*k+2)
		mid := int64(k + 1)
		for range 5 {
			wants(t, shuffled(r, odd), k, []int64{mid}, mid, 0)
			wants(t, shuffled(r, even), k, []int64{mid, mid + 1}, mid, 1)
		}
	}
	wants(t, []int64{8, -3, 40, -1, 0}, 2, []int64{0}, 0, 0)
	wants(t, []int64{8, -3, 40, -1, 0, -2}, 2, []int64{-1, 0}, -1, 1)
	wants(t, []int64{7, 7, -9, 100, 3, 2, 1}, 3, []int64{3}, 3, 0)
	wants(t, []int64{7, 7, -9, 100, 3, 2, 1, 6}, 3, []int64{3, 6}, 4, 3)
}

// P14.1: an order of what is handed in means nothing.
func TestRisesAndFalls(t *testing.T) {
	rises := []int64{-20, -11, -4, 0, 3, 9, 27}
	falls := slices.Clone(rises)
	slices.Reverse(falls)
	for _, l := range [][]int64{rises, falls, {3, -20, 27, 0, -11, 9, -4}} {
		wants(t, l, 0, rises, 3, 47)
		wants(t, l, 1, []int64{-11, -4, 0, 3, 9}, -1, 20)
		wants(t, l, 2, []int64{-4, 0, 3}, -1, 7)
		wants(t, l, 3, []int64{0}, 0, 0)
		refuses(t, l, 4)
	}
}

// P14.1: values that are the same are dropped one by one, and not all at once.
func TestSameValues(t *testing.T) {
	for _, n := range edges {
		for many := 1; many <= 9; many++ {
			l := slices.Repeat([]int64{n}, many)
			for k := 0; 2*k+1 <= many; k++ {
				wants(t, l, k, l[2*k:], n, 0)
			}
		}
	}
	wants(t, []int64{1, 1, 2, 3, 3}, 1, []int64{1, 2, 3}, 2, 2)
	wants(t, []int64{3, 1, 2, 3, 1}, 2, []int64{2}, 2, 0)
	wants(t, []int64{1, 1, 1, 5, 9, 9, 9}, 1, []int64{1, 1, 5, 9, 9}, 5, 8)
	wants(t, []int64{9, 1, 9, 1, 5, 9, 1}, 2, []int64{1, 5, 9}, 5, 8)
	wants(t, []int64{-4, -4, -4, -4, 7}, 1, []int64{-4, -4, -4}, -4, 0)
	wants(t, []int64{-4, 7, 7, 7, 7}, 1, []int64{7, 7, 7}, 7, 0)
	wants(t, []int64{0, 0, 6, 6}, 1, []int64{0, 6}, 3, 6)
	wants(t, []int64{6, 0, 6, 0, 0, 6}, 2, []int64{0, 6}, 3, 6)
}

// P14.1: the half of a sum is rounded down, be it above 0 or below.
func TestRounding(t *testing.T) {
	for _, c := range []struct{ least, most, middle int64 }{
		{0, 0, 0}, {0, 1, 0}, {-1, 0, -1}, {-1, 1, 0}, {1, 2, 1}, {-2, -1, -2}, {-2, 1, -1}, {-1, 2, 0},
		{2, 4, 3}, {-4, -2, -3}, {-3, -2, -3}, {-7, 4, -2}, {-4, 7, 1}, {-8, 4, -2}, {-1, 6, 2}, {-6, 1, -3},
		{greatest - 1, greatest, greatest - 1}, {-greatest, -greatest + 1, -greatest},
		{greatest, greatest, greatest}, {-greatest, -greatest, -greatest},
		{-greatest, greatest, 0}, {-greatest, greatest - 1, -1}, {-greatest + 1, greatest, 0},
		{-greatest, 0, -greatest / 2}, {0, greatest, greatest / 2},
		{-greatest, -1, -greatest/2 - 1}, {1, greatest, greatest / 2},
		{-greatest, 1, -greatest / 2}, {-1, greatest, greatest/2 - 1},
	} {
		spread := c.most - c.least
		wants(t, []int64{c.most, c.least}, 0, []int64{c.least, c.most}, c.middle, spread)
		wants(t, []int64{c.least, greatest, c.most, -greatest}, 1, []int64{c.least, c.most}, c.middle, spread)
		wants(t, []int64{c.most, c.least, c.least}, 0, []int64{c.least, c.least, c.most}, c.middle, spread)
	}
}

// P14.1: the midpoint is that of the outer ones; what lies between them means nothing.
func TestMiddleIsNoMean(t *testing.T) {
	wants(t, []int64{0, 9, 9, 9, 10}, 0, []int64{0, 9, 9, 9, 10}, 5, 10)
	wants(t, []int64{0, 1, 1, 1, 10}, 0, []int64{0, 1, 1, 1, 10}, 5, 10)
	wants(t, []int64{-100, 0, 90, 91, 100, 1000}, 1, []int64{0, 90, 91, 100}, 50, 100)
}

// P14.1: all pairs of edges, with edges that are dropped.
func TestEdges(t *testing.T) {
	for _, a := range edges {
		for _, b := range edges {
			fits(t, []int64{a, b}, 0)
			for _, c := range edges {
				fits(t, []int64{a, b, c}, 0)
				fits(t, []int64{a, b, c}, 1)
				fits(t, []int64{c, greatest, a, b, -greatest}, 1)
			}
		}
	}
}

// P14.1: all short lists of few values, by each k.
func TestAllShortLists(t *testing.T) {
	var grow func(l []int64)
	grow = func(l []int64) {
		for k := -1; k <= 3; k++ {
			check(t, l, k, told(l, k))
		}
		if len(l) == 5 {
			return
		}
		for n := int64(-2); n <= 2; n++ {
			grow(append(slices.Clone(l), n))
		}
	}
	grow(nil)
}

// P14.1: lists of any length and order, by each k.
func TestAnyLists(t *testing.T) {
	r := rand.New(rand.NewSource(142))
	for range 3000 {
		l := some(r, r.Intn(20))
		for k := -2; k <= len(l)/2+2; k++ {
			check(t, l, k, told(l, k))
		}
	}
}

// P14.1: many values.
func TestManyValues(t *testing.T) {
	r := rand.New(rand.NewSource(143))
	const many = 100001
	l := shuffled(r, risingTo(many))
	for _, k := range []int{0, 1, 2, 1000, many/2 - 1, many / 2} {
		trimmed := risingTo(many)[k : many-k]
		check(t, l, k, answers{trimmed, many/2 + 1, int64(many - 1 - 2*k), api.OK})
	}
	refuses(t, l[:9], 5)
	check(t, l, many/2+1, answers{err: api.ErrMidpoint})
	l[many-1] = greatest + 1
	check(t, l, 1, answers{err: api.ErrMidpoint})
}

// P14.1: fewer than 2 k + 1 values are too few, and what is just enough is not.
func TestTooFew(t *testing.T) {
	refuses(t, nil, 0)
	refuses(t, nil, 1)
	refuses(t, []int64{}, 0)
	refuses(t, []int64{}, 1)
	for k := 1; k <= 20; k++ {
		for many := range 2*k + 1 {
			refuses(t, risingTo(many), k)
		}
		fits(t, risingTo(2*k+1), k)
	}
}

// P14.1: a k that is none is refused, however many values there are.
func TestWrongK(t *testing.T) {
	for many := range 40 {
		for _, k := range farK {
			refuses(t, risingTo(many), k)
		}
	}
}

// P14.1: what is no value is refused at each place, also where it would be trimmed away.
func TestWrongValues(t *testing.T) {
	for _, far := range farBy {
		refuses(t, []int64{far}, 0)
		for many := 1; many <= 7; many++ {
			for place := range many {
				l := risingTo(many)
				fits(t, l, (many-1)/2)
				l[place] = far
				for k := -1; k <= 4; k++ {
					refuses(t, l, k)
				}
			}
		}
		refuses(t, []int64{far, far, far, 0, 0, 0, 0}, 3)
		refuses(t, []int64{0, far, far, far}, 1)
	}
}

// P14.2: what is handed in stays as it is, what lies behind it too.
func TestOnlyRead(t *testing.T) {
	all := []int64{9, -3, 5, 5, -7, 0, 2, 1 << 40, -1 << 40, 77, -77}
	before := slices.Clone(all)
	for many := range 8 {
		for k := -1; k <= 4; k++ {
			check(t, all[:many], k, told(all[:many], k))
			if !slices.Equal(all, before) {
				t.Fatalf("%d values, k %d: all are %v, and were %v", many, k, all, before)
			}
		}
	}
}

// P14.2: an answer that is changed changes neither what was handed in, nor another answer.
func TestNewMemory(t *testing.T) {
	for _, l := range [][]int64{{1, 2, 3, 4, 5}, {5, 4, 3, 2, 1}, {3, 3, 3, 3, 3}, {-9, 4, 0, 4, 2}} {
		before := slices.Clone(l)
		for k := range 3 {
			first, _ := midpoint.Trim(l, k)
			second, _ := midpoint.Trim(l, k)
			want := slices.Clone(second)
			whole := first[:cap(first)]
			for n := range whole {
				whole[n] = -1000
			}
			if !slices.Equal(l, before) {
				t.Fatalf("%v, k %d: what was handed in is %v", before, k, l)
			}
			if !slices.Equal(second, want) {
				t.Errorf("%v, k %d: another answer is %v, and was %v", before, k, second, want)
			}
			check(t, l, k, told(l, k))
		}
	}
}

// P14.2: what was handed in is not kept: it may be changed afterwards.
func TestNotKept(t *testing.T) {
	l := []int64{1, 2, 3, 4, 5}
	trimmed, _ := midpoint.Trim(l, 1)
	for n := range l {
		l[n] = -50
	}
	if !slices.Equal(trimmed, []int64{2, 3, 4}) {
		t.Errorf("the answer is %v when what was handed in is changed", trimmed)
	}
	wants(t, l, 1, []int64{-50, -50, -50}, -50, 0)
	wants(t, []int64{1, 2, 3}, 1, []int64{2}, 2, 0)
}

// P14.2: the same is answered again, behind wrong calls too.
func TestSameAgain(t *testing.T) {
	for range 3 {
		wants(t, []int64{3, 1, 2, 9, -50}, 1, []int64{1, 2, 3}, 2, 2)
		refuses(t, []int64{3, 1, 2, 9, -50}, 3)
		refuses(t, []int64{3, 1, 2, 9, greatest + 1}, 1)
	}
}

// P14.3: k values that are as far off as they may be don't take the midpoint
// out of where the others lie.
func TestFarOnes(t *testing.T) {
	r := rand.New(rand.NewSource(144))
	for k := range 6 {
		for more := range 4 {
			good := some(r, k+1+more)
			for above := 0; above <= k; above++ {
				bad := slices.Concat(slices.Repeat([]int64{greatest}, above), slices.Repeat([]int64{-greatest}, k-above))
				l := shuffled(r, slices.Concat(good, bad))
				m := middle(t, l, k)
				if m < slices.Min(good) || m > slices.Max(good) {
					t.Errorf("%v, k %d: midpoint %d, but all but %d lie from %d to %d", l, k, m, k, slices.Min(good), slices.Max(good))
				}
			}
		}
	}
	wants(t, []int64{10, 12, 14, greatest}, 1, []int64{12, 14}, 13, 2)
	wants(t, []int64{10, 12, 14, -greatest}, 1, []int64{10, 12}, 11, 2)
	wants(t, []int64{greatest, 10, -greatest, 12, 14}, 2, []int64{12}, 12, 0)
}

// P14.3: so it is wherever k of the values lie.
func TestAllButK(t *testing.T) {
	r := rand.New(rand.NewSource(145))
	for range 20000 {
		k := r.Intn(6)
		good, bad := some(r, k+1+r.Intn(5)), some(r, k)
		l := shuffled(r, slices.Concat(good, bad))
		m := middle(t, l, k)
		if m < slices.Min(good) || m > slices.Max(good) {
			t.Fatalf("%v, k %d: midpoint %d, but all but %v lie from %d to %d", l, k, m, bad, slices.Min(good), slices.Max(good))
		}
	}
}

// P14.3: if each value is moved by at most d, the midpoint is by at most d.
func TestEachMoved(t *testing.T) {
	r := rand.New(rand.NewSource(146))
	for range 20000 {
		k := r.Intn(6)
		l := some(r, 2*k+1+r.Intn(5))
		d := []int64{0, 1, 2, 3, 100, 1 << 20, greatest, 2 * greatest}[r.Intn(8)]
		moved := make([]int64, len(l))
		for n := range l {
			moved[n] = near(r, l[n], d)
		}
		by := middle(t, shuffled(r, moved), k) - middle(t, l, k)
		if by < -d || by > d {
			t.Fatalf("%v, each moved by at most %d to %v: the midpoint moved by %d", l, d, moved, by)
		}
	}
}

// P14.3: each by just d, up or down, in each way.
func TestUpAndDown(t *testing.T) {
	l := []int64{5, -2, 0, 8, 1}
	for d := range int64(5) {
		for ups := range 1 << len(l) {
			moved := slices.Clone(l)
			for n := range l {
				moved[n] += d * int64(2*(ups>>n&1)-1)
			}
			for k := range 3 {
				by := middle(t, moved, k) - middle(t, l, k)
				if by < -d || by > d {
					t.Fatalf("%v, moved by %d to %v, k %d: the midpoint moved by %d", l, d, moved, k, by)
				}
			}
		}
	}
}

// P14.3: if all are moved by the same, so is the midpoint, up to the bounds.
func TestAllMoved(t *testing.T) {
	r := rand.New(rand.NewSource(147))
	for range 5000 {
		k := r.Intn(6)
		l := some(r, 2*k+1+r.Intn(5))
		down, up := -greatest-slices.Min(l), greatest-slices.Max(l)
		for _, by := range []int64{down, up, down + r.Int63n(up-down+1), max(down, -1), min(up, 1)} {
			moved := slices.Clone(l)
			for n := range moved {
				moved[n] += by
			}
			moved = shuffled(r, moved)
			if got := middle(t, moved, k) - middle(t, l, k); got != by {
				t.Fatalf("%v, all moved by %d to %v, k %d: the midpoint moved by %d", l, by, moved, k, got)
			}
			fits(t, moved, k)
		}
	}
}
