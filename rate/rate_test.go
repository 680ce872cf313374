package rate_test

import (
	"math"
	"math/big"
	"math/rand"
	"testing"

	"vespers/api"
	"vespers/rate"
)

// Numbers that may be, the edges of each among them, and numbers that may not.
var (
	dens    = []int64{1, 2, 3, 7, 1000, 32768, 65535, api.MaxDen}
	noDens  = []int64{math.MinInt64, math.MinInt64 + 1, -1 << 62, -1 << 32, -65536, -2, -1, 0, api.MaxDen + 1, 1 << 17, 1 << 32, 1<<32 + 1, 1 << 62, 1<<62 + 1, math.MaxInt64 - 1, math.MaxInt64}
	noNums  = []int64{math.MinInt64, math.MinInt64 + 1, -1 << 62, -1 << 32, -65536, -2, -1, 0, 1<<17 + 1, 1 << 32, 1<<32 + 1, 1 << 62, 1<<63 - 2, math.MaxInt64}
	times   = []int64{0, 1, 2, 9, 10, 11, 1000, 65535, 65536, 65537, 1 << 31, 1<<32 - 65536, 1<<32 - 1001, api.MaxTime - 2, api.MaxTime - 1, api.MaxTime}
	noTimes = []int64{math.MinInt64, math.MinInt64 + 1, -1 << 62, -1 << 33, -api.MaxTime - 1, -api.MaxTime, -2, -1, api.MaxTime + 1, api.MaxTime + 2, 1 << 33, 1 << 40, 1 << 62, math.MaxInt64 - 1, math.MaxInt64}
	sets    = []int64{0, 1, -1, 5, -5, 64, -1000, 1 << 31, -api.MaxTime, -api.MaxTime + 1, api.MaxTime - 1, api.MaxTime}
	noSets  = []int64{math.MinInt64, math.MinInt64 + 1, -1 << 62, -1 << 33, -api.MaxTime - 2, -api.MaxTime - 1, api.MaxTime + 1, api.MaxTime + 2, 1 << 33, 1 << 62, math.MaxInt64 - 1, math.MaxInt64}
	far     = []int64{math.MinInt64, math.MinInt64 + 1, math.MinInt64 + api.MaxTime, math.MinInt64 + api.MaxTime + 1, -1 << 62, -1 << 48, 1 << 48, 1 << 62, math.MaxInt64 - api.MaxTime, math.MaxInt64 - api.MaxTime + 1, math.MaxInt64 - 1, math.MaxInt64}
)

func clock(num, den, on, adj int64) api.Clock {
	return api.Clock{Rate: api.Rate{Num: num, Den: den}, On: on, Adj: adj}
}

// numsOf are numerators that go with a denominator: the edges, a bit above 1
// and below it, and 1.
func numsOf(den int64) []int64 {
	var l []int64
	for _, n := range []int64{1, 2, den / 2, den - 1, den, den + 1, 2*den - 1, 2 * den} {
		if n >= 1 && n <= 2*den {
			l = append(l, n)
		}
	}
	return l
}

func someRates() []api.Rate {
	var l []api.Rate
	for _, den := range dens {
		for _, num := range numsOf(den) {
			l = append(l, api.Rate{Num: num, Den: den})
		}
	}
	return l
}

func wrongRates() []api.Rate {
	var l []api.Rate
	for _, den := range noDens {
		// With half of it as the numerator, as with all, it is the
		// denominator alone that may not be.
		for _, num := range []int64{1, 2, 1000, 65536, 1 << 17, den / 2, den, 0, -1, math.MaxInt64, math.MinInt64} {
			l = append(l, api.Rate{Num: num, Den: den})
		}
	}
	for _, den := range dens {
		l = append(l, api.Rate{Num: 2*den + 1, Den: den}, api.Rate{Num: 2*den + 2, Den: den}, api.Rate{Num: -den, Den: den})
		for _, num := range noNums {
			l = append(l, api.Rate{Num: num, Den: den})
		}
	}
	return l
}

func some() []api.Clock {
	var l []api.Clock
	for _, r := range someRates() {
		for _, on := range times {
			for _, adj := range sets {
				l = append(l, api.Clock{Rate: r, On: on, Adj: adj})
			}
		}
	}
	return l
}

// wrong are clocks that may not be: for one of their numbers, or for more.
func wrong() []api.Clock {
	var l []api.Clock
	for _, r := range wrongRates() {
		l = append(l, api.Clock{Rate: r}, api.Clock{Rate: r, On: 10, Adj: 5}, api.Clock{Rate: r, On: api.MaxTime, Adj: -api.MaxTime})
	}
	for _, r := range []api.Rate{{Num: 1, Den: 1}, {Num: 1001, Den: 1000}, {Num: 1, Den: api.MaxDen}, {Num: 2 * api.MaxDen, Den: api.MaxDen}} {
		for _, on := range noTimes {
			l = append(l, api.Clock{Rate: r, On: on}, api.Clock{Rate: r, On: on, Adj: -on}, api.Clock{Rate: r, On: on, Adj: api.MaxTime})
		}
		for _, adj := range noSets {
			l = append(l, api.Clock{Rate: r, Adj: adj}, api.Clock{Rate: r, On: 10, Adj: adj}, api.Clock{Rate: r, On: api.MaxTime, Adj: adj})
		}
	}
	return append(l, api.Clock{}, clock(0, 0, -1, api.MaxTime+1))
}

// random is some clock that may be, often one at an edge.
func random(r *rand.Rand) api.Clock {
	den := 1 + r.Int63n(api.MaxDen)>>r.Intn(17)
	c := clock(1+r.Int63n(2*den), den, r.Int63n(api.MaxTime+1)>>r.Intn(33), r.Int63n(2*api.MaxTime+1)-api.MaxTime)
	if r.Intn(2) == 0 {
		c.Rate.Num = max(1, den-1+r.Int63n(3))
	}
	return c
}

func whole(n int64) *big.Int { return big.NewInt(n) }

// reading is what a clock reads, by the chapter's words, in numbers that don't
// run over.
func reading(c api.Clock, t int64) int64 {
	n := new(big.Int).Sub(whole(t), whole(c.On))
	n.Mul(n, whole(c.Rate.Num))
	n.Div(n, whole(c.Rate.Den)) // rounded down
	return n.Add(n, whole(c.Adj)).Int64()
}

// keeping says whether a rate that may be keeps a bound, by the chapter's words.
func keeping(r api.Rate, rho int64) bool {
	n := new(big.Int).Sub(whole(r.Num), whole(r.Den))
	n.Abs(n).Mul(n, whole(rho))
	return n.Cmp(whole(r.Den)) <= 0
}

func wantKeeps(t *testing.T, r api.Rate, rho int64, want api.Errno) {
	t.Helper()
	if err := rate.Keeps(r, rho); err != want {
		t.Errorf("%v keeps %d: error %d, want %d", r, rho, err, want)
	}
}

func wantReads(t *testing.T, c api.Clock, at, want int64) {
	t.Helper()
	if n, err := rate.Reads(c, at); err != api.OK || n != want {
		t.Errorf("%v at %d: reads %d, error %d; want %d", c, at, n, err, want)
	}
}

func wantNotRead(t *testing.T, c api.Clock, at int64) {
	t.Helper()
	if n, err := rate.Reads(c, at); err != api.ErrRate || n != 0 {
		t.Errorf("%v at %d: reads %d, error %d; want ErrRate", c, at, n, err)
	}
}

func wantWhen(t *testing.T, c api.Clock, reads, want int64) {
	t.Helper()
	if at, err := rate.When(c, reads); err != api.OK || at != want {
		t.Errorf("%v reads %d at %d, error %d; want %d", c, reads, at, err, want)
	}
}

func wantNever(t *testing.T, c api.Clock, reads int64, want api.Errno) {
	t.Helper()
	if at, err := rate.When(c, reads); err != want || at != 0 {
		t.Errorf("%v reads %d at %d, error %d; want error %d", c, reads, at, err, want)
	}
}

// wantFirst wants a time at which a clock reads so much, and not ahead of it.
func wantFirst(t *testing.T, c api.Clock, reads int64) {
	t.Helper()
	at, err := rate.When(c, reads)
	switch {
	case err != api.OK || at < c.On || at > api.MaxTime:
		t.Errorf("%v reads %d at %d, error %d", c, reads, at, err)
	case reading(c, at) < reads:
		t.Errorf("%v reads %d at %d: then it reads %d", c, reads, at, reading(c, at))
	case at > c.On && reading(c, at-1) >= reads:
		t.Errorf("%v reads %d at %d: ahead of it it reads %d", c, reads, at, reading(c, at-1))
	}
}

func wantSet(t *testing.T, c api.Clock, by int64) {
	t.Helper()
	want := clock(c.Rate.Num, c.Rate.Den, c.On, c.Adj+by)
	if s, err := rate.Set(c, by); err != api.OK || s != want {
		t.Errorf("%v set by %d: %v, error %d; want %v", c, by, s, err, want)
	}
}

func wantNotSet(t *testing.T, c api.Clock, by int64) {
	t.Helper()
	if s, err := rate.Set(c, by); err != api.ErrRate || s != (api.Clock{}) {
		t.Errorf("%v set by %d: %v, error %d; want ErrRate", c, by, s, err)
	}
}

func wantRestart(t *testing.T, c api.Clock, at int64) {
	t.Helper()
	want := clock(c.Rate.Num, c.Rate.Den, at, 0)
	if s, err := rate.Restart(c, at); err != api.OK || s != want {
		t.Errorf("%v on at %d: %v, error %d; want %v", c, at, s, err, want)
	}
}

func wantNotRestart(t *testing.T, c api.Clock, at int64) {
	t.Helper()
	if s, err := rate.Restart(c, at); err != api.ErrRate || s != (api.Clock{}) {
		t.Errorf("%v on at %d: %v, error %d; want ErrRate", c, at, s, err)
	}
}

// The chapter's examples.

func TestExamples(t *testing.T) {
	c := clock(1001, 1000, 10, 5)
	wantReads(t, c, 10, 5)
	wantReads(t, c, 1010, 1006)
	wantNotRead(t, c, 9)
	wantWhen(t, c, 5, 10)
	wantWhen(t, c, 6, 11)
	wantWhen(t, c, 1006, 1010)
	wantKeeps(t, c.Rate, 1000, api.OK)
	wantKeeps(t, c.Rate, 1001, api.ErrRate)
}

// P6.1

func TestCheckWhatMayBe(t *testing.T) {
	for _, c := range some() {
		if err := rate.Check(c); err != api.OK {
			t.Errorf("%v: error %d", c, err)
		}
	}
}

func TestCheckWhatMayNotBe(t *testing.T) {
	for _, c := range wrong() {
		if err := rate.Check(c); err != api.ErrRate {
			t.Errorf("%v: error %d, want ErrRate", c, err)
		}
	}
}

func TestCheckEachNumberAtItsLimits(t *testing.T) {
	for _, one := range []struct {
		c    api.Clock
		want api.Errno
	}{
		{clock(1, 1, 0, 0), api.OK},
		{clock(2, 1, 0, 0), api.OK},
		{clock(3, 1, 0, 0), api.ErrRate},
		{clock(0, 1, 0, 0), api.ErrRate},
		{clock(1, 0, 0, 0), api.ErrRate},
		{clock(0, 0, 0, 0), api.ErrRate},
		{clock(-1, -1, 0, 0), api.ErrRate},
		{clock(1, 65536, 0, 0), api.OK},
		{clock(131072, 65536, 0, 0), api.OK},
		{clock(131073, 65536, 0, 0), api.ErrRate},
		{clock(1, 65537, 0, 0), api.ErrRate},
		{clock(131072, 65537, 0, 0), api.ErrRate},
		{clock(1, 1<<62, 0, 0), api.ErrRate},
		{clock(1, 1, 1<<32, 0), api.OK},
		{clock(1, 1, 1<<32+1, 0), api.ErrRate},
		{clock(1, 1, -1, 0), api.ErrRate},
		{clock(1, 1, 0, 1<<32), api.OK},
		{clock(1, 1, 0, 1<<32+1), api.ErrRate},
		{clock(1, 1, 0, -1<<32), api.OK},
		{clock(1, 1, 0, -1<<32-1), api.ErrRate},
	} {
		if err := rate.Check(one.c); err != one.want {
			t.Errorf("%v: error %d, want %d", one.c, err, one.want)
		}
	}
}

func TestKeeps(t *testing.T) {
	bounds := []int64{4, 5, 7, 999, 1000, 1001, 32767, 32768, 65535, 65536, 65537, 100000, api.MaxRho - 1, api.MaxRho}
	for _, r := range someRates() {
		for _, rho := range bounds {
			want := api.ErrRate
			if keeping(r, rho) {
				want = api.OK
			}
			wantKeeps(t, r, rho, want)
		}
	}
}

func TestKeepsJustAndJustNot(t *testing.T) {
	for _, rho := range []int64{4, 5, 100, 1000, 65535, 65536} {
		wantKeeps(t, api.Rate{Num: rho + 1, Den: rho}, rho, api.OK)
		wantKeeps(t, api.Rate{Num: rho - 1, Den: rho}, rho, api.OK)
		wantKeeps(t, api.Rate{Num: rho + 1, Den: rho}, rho+1, api.ErrRate)
		wantKeeps(t, api.Rate{Num: rho - 1, Den: rho}, rho+1, api.ErrRate)
		wantKeeps(t, api.Rate{Num: rho, Den: rho - 1}, rho, api.ErrRate)
		wantKeeps(t, api.Rate{Num: rho - 2, Den: rho - 1}, rho, api.ErrRate)
	}
	wantKeeps(t, api.Rate{Num: 5, Den: 4}, 4, api.OK)
	wantKeeps(t, api.Rate{Num: 3, Den: 4}, 4, api.OK)
	wantKeeps(t, api.Rate{Num: 6, Den: 4}, 4, api.ErrRate)
	wantKeeps(t, api.Rate{Num: 2, Den: 4}, 4, api.ErrRate)
	wantKeeps(t, api.Rate{Num: 2 * api.MaxDen, Den: api.MaxDen}, 4, api.ErrRate)
	wantKeeps(t, api.Rate{Num: 1, Den: api.MaxDen}, 4, api.ErrRate)
	wantKeeps(t, api.Rate{Num: api.MaxDen + api.MaxDen/4, Den: api.MaxDen}, 4, api.OK)
	wantKeeps(t, api.Rate{Num: api.MaxDen + api.MaxDen/4 + 1, Den: api.MaxDen}, 4, api.ErrRate)
	wantKeeps(t, api.Rate{Num: api.MaxDen - api.MaxDen/4, Den: api.MaxDen}, 4, api.OK)
	wantKeeps(t, api.Rate{Num: api.MaxDen - api.MaxDen/4 - 1, Den: api.MaxDen}, 4, api.ErrRate)
}

func TestAnExactRateKeepsEachBound(t *testing.T) {
	for _, den := range dens {
		for _, rho := range []int64{4, 1000, api.MaxRho} {
			wantKeeps(t, api.Rate{Num: den, Den: den}, rho, api.OK)
		}
		for _, rho := range []int64{3, api.MaxRho + 1} {
			wantKeeps(t, api.Rate{Num: den, Den: den}, rho, api.ErrRate)
		}
	}
}

func TestKeepsWhatIsNoBound(t *testing.T) {
	bounds := append([]int64{3, 2, 1, 0, -1, -4, -1000, api.MaxRho + 1, api.MaxRho + 2, 1 << 32, 1<<32 + 4}, far...)
	for _, rho := range bounds {
		for _, r := range someRates() {
			wantKeeps(t, r, rho, api.ErrRate)
		}
	}
}

func TestKeepsOfWhatIsNoRate(t *testing.T) {
	for _, r := range wrongRates() {
		for _, rho := range []int64{4, 1000, api.MaxRho, 3, api.MaxRho + 1, math.MinInt64, math.MaxInt64} {
			wantKeeps(t, r, rho, api.ErrRate)
		}
	}
	for _, same := range append(append([]int64{}, noDens...), far...) {
		wantKeeps(t, api.Rate{Num: same, Den: same}, 4, api.ErrRate)
	}
}

// P6.2

func TestReads(t *testing.T) {
	for _, c := range some() {
		for _, at := range append([]int64{c.On, c.On + 1, c.On + c.Rate.Den - 1, c.On + c.Rate.Den}, times...) {
			if at >= c.On && at <= api.MaxTime {
				wantReads(t, c, at, reading(c, at))
			}
		}
	}
}

func TestReadsEdges(t *testing.T) {
	wantReads(t, clock(1, 1, 0, 0), 0, 0)
	wantReads(t, clock(1, 1, 0, 0), api.MaxTime, 1<<32)
	wantReads(t, clock(2, 1, 0, api.MaxTime), api.MaxTime, 3<<32)
	wantReads(t, clock(2*api.MaxDen, api.MaxDen, 0, api.MaxTime), api.MaxTime, 3<<32)
	wantReads(t, clock(2*api.MaxDen-1, api.MaxDen, 0, 0), api.MaxTime, 1<<33-1<<16)
	wantReads(t, clock(1, api.MaxDen, 0, -api.MaxTime), api.MaxTime, 1<<16-1<<32)
	wantReads(t, clock(1, api.MaxDen, 0, -api.MaxTime), 65535, -1<<32)
	wantReads(t, clock(1, api.MaxDen, 0, -api.MaxTime), 65536, 1-1<<32)
	wantReads(t, clock(1, 1, api.MaxTime, 7), api.MaxTime, 7)
	// Rounded down is what it went on by, not what it reads.
	wantReads(t, clock(3, 4, 100, -10), 101, -10)
	wantReads(t, clock(3, 4, 100, -10), 102, -9)
	wantReads(t, clock(3, 4, 100, -10), 103, -8)
	wantReads(t, clock(3, 4, 100, -10), 104, -7)
	wantReads(t, clock(999, 1000, 10, 5), 11, 5)
	wantReads(t, clock(999, 1000, 10, 5), 1010, 1004)
}

func TestReadsAtNoTime(t *testing.T) {
	for _, c := range some() {
		wantNotRead(t, c, c.On-1)
		wantNotRead(t, c, 0-c.On-1)
		wantNotRead(t, c, api.MaxTime+1)
		wantNotRead(t, c, math.MinInt64)
		wantNotRead(t, c, math.MaxInt64)
	}
	for _, at := range append(append([]int64{}, noTimes...), far...) {
		wantNotRead(t, clock(1, 1, 0, 0), at)
		wantNotRead(t, clock(1001, 1000, 10, 5), at)
		wantNotRead(t, clock(2*api.MaxDen, api.MaxDen, api.MaxTime, api.MaxTime), at)
		wantNotRead(t, clock(1, api.MaxDen, api.MaxTime, -api.MaxTime), at)
	}
}

func TestWrongClocksTellNothing(t *testing.T) {
	for _, c := range wrong() {
		for _, n := range []int64{0, 1, 10, api.MaxTime, c.On, c.Adj, -1, api.MaxTime + 1, math.MinInt64, math.MaxInt64} {
			wantNotRead(t, c, n)
			wantNever(t, c, n, api.ErrRate)
		}
	}
}

func TestWhenIsTheFirstTime(t *testing.T) {
	for _, c := range some() {
		last := reading(c, api.MaxTime)
		wantFirst(t, c, last)
		wantNever(t, c, last+1, api.ErrNever)
		wantNever(t, c, last+2, api.ErrNever)
		middle := c.Adj + (last-c.Adj)/2
		for _, reads := range []int64{c.Adj + 1, c.Adj + 2, c.Adj + 1000, middle, last - 1} {
			if reads <= last {
				wantFirst(t, c, reads)
			}
		}
	}
}

func TestWhenAtOnce(t *testing.T) {
	for _, c := range some() {
		for _, reads := range append([]int64{c.Adj, c.Adj - 1, c.Adj - api.MaxTime, -api.MaxTime}, far...) {
			if reads <= c.Adj {
				wantWhen(t, c, reads, c.On)
			}
		}
	}
}

func TestWhenMoreThanItEverReads(t *testing.T) {
	for _, c := range some() {
		for _, reads := range append([]int64{3<<32 + 1, 1 << 34, 1 << 40}, far...) {
			if reads > reading(c, api.MaxTime) {
				wantNever(t, c, reads, api.ErrNever)
			}
		}
	}
}

func TestWhenEdges(t *testing.T) {
	wantWhen(t, clock(1, 1, 0, 0), 0, 0)
	wantWhen(t, clock(1, 1, 0, 0), 1<<32, api.MaxTime)
	wantNever(t, clock(1, 1, 0, 0), 1<<32+1, api.ErrNever)
	wantWhen(t, clock(2, 1, 0, api.MaxTime), 3<<32, api.MaxTime)
	wantWhen(t, clock(2, 1, 0, api.MaxTime), 3<<32-1, api.MaxTime)
	wantWhen(t, clock(2, 1, 0, api.MaxTime), 3<<32-2, api.MaxTime-1)
	wantNever(t, clock(2, 1, 0, api.MaxTime), 3<<32+1, api.ErrNever)
	wantWhen(t, clock(2*api.MaxDen, api.MaxDen, 0, -api.MaxTime), 1<<32, api.MaxTime)
	wantWhen(t, clock(1, api.MaxDen, 0, 0), 1, 65536)
	wantWhen(t, clock(1, api.MaxDen, 0, 0), 1<<16, api.MaxTime)
	wantNever(t, clock(1, api.MaxDen, 0, 0), 1<<16+1, api.ErrNever)
	wantNever(t, clock(1, api.MaxDen, 1, 0), 1<<16, api.ErrNever)
	wantWhen(t, clock(1, 1, api.MaxTime, 7), 7, api.MaxTime)
	wantNever(t, clock(1, 1, api.MaxTime, 7), 8, api.ErrNever)
	wantWhen(t, clock(3, 4, 100, -10), -9, 102)
	wantWhen(t, clock(3, 4, 100, -10), -7, 104)
	wantWhen(t, clock(3, 4, 100, -10), -6, 106)
	wantWhen(t, clock(2, 1, 100, 0), 1, 101)
	wantWhen(t, clock(2, 1, 100, 0), 2, 101)
	wantWhen(t, clock(2, 1, 100, 0), 3, 102)
}

func TestWhenTickByTick(t *testing.T) {
	for den := int64(1); den <= 8; den++ {
		for num := int64(1); num <= 2*den; num++ {
			c := clock(num, den, 20, -3)
			at := c.On
			for reads := c.Adj - 2; reads < 30; reads++ {
				for reading(c, at) < reads {
					at++
				}
				wantWhen(t, c, reads, at)
			}
		}
	}
}

func TestWhenUpToTheLastTick(t *testing.T) {
	for den := int64(1); den <= 8; den++ {
		for num := int64(1); num <= 2*den; num++ {
			c := clock(num, den, api.MaxTime-10, 4)
			last := reading(c, api.MaxTime)
			for reads := c.Adj - 1; reads < 40; reads++ {
				if reads <= last {
					wantFirst(t, c, reads)
				} else {
					wantNever(t, c, reads, api.ErrNever)
				}
			}
		}
	}
}

// P6.3

func TestSet(t *testing.T) {
	for _, c := range some() {
		for _, by := range []int64{0, 1, -1, 64, -64, 1 << 20, -1 << 31, 1 << 32, -1 << 32, 1 << 33, -1 << 33, 1<<33 + 1, -1<<33 - 1} {
			if to := c.Adj + by; to >= -api.MaxTime && to <= api.MaxTime {
				wantSet(t, c, by)
			} else {
				wantNotSet(t, c, by)
			}
		}
	}
}

func TestSetToTheLimitsAndBeyond(t *testing.T) {
	for _, c := range some() {
		forth, back := api.MaxTime-c.Adj, -api.MaxTime-c.Adj
		wantSet(t, c, forth)
		wantNotSet(t, c, forth+1)
		wantSet(t, c, back)
		wantNotSet(t, c, back-1)
	}
}

func TestSetForthAndBack(t *testing.T) {
	c := clock(1001, 1000, 10, 5)
	forth, err := rate.Set(c, 64)
	if err != api.OK || forth != clock(1001, 1000, 10, 69) {
		t.Errorf("set forth: %v, error %d", forth, err)
	}
	wantReads(t, forth, 1010, 1070)
	back, err := rate.Set(forth, -64)
	if err != api.OK || back != c {
		t.Errorf("set back: %v, error %d", back, err)
	}
	if c != clock(1001, 1000, 10, 5) {
		t.Errorf("handed in, and changed: %v", c)
	}
}

func TestSetFar(t *testing.T) {
	for _, c := range some() {
		for _, by := range far {
			wantNotSet(t, c, by)
		}
	}
}

func TestSetWrongClocks(t *testing.T) {
	for _, c := range wrong() {
		// By the last of these the clock, set on, would be one that may be,
		// if it were for its Adj alone.
		for _, by := range []int64{0, 1, -1, api.MaxTime, -api.MaxTime, math.MinInt64, math.MaxInt64, -c.Adj} {
			wantNotSet(t, c, by)
		}
	}
}

func TestRestart(t *testing.T) {
	for _, c := range some() {
		for _, at := range []int64{0, 1, c.On, c.On / 2, api.MaxTime - 1, api.MaxTime} {
			wantRestart(t, c, at)
		}
	}
	for _, at := range times {
		wantRestart(t, clock(999, 1000, 10, -5), at)
	}
	again, _ := rate.Restart(clock(1001, 1000, 10, 5), 500)
	wantReads(t, again, 500, 0)
	wantReads(t, again, 1500, 1001)
	wantNotRead(t, again, 499)
}

func TestRestartAtNoTime(t *testing.T) {
	for _, at := range append(append([]int64{}, noTimes...), far...) {
		for _, r := range someRates() {
			wantNotRestart(t, api.Clock{Rate: r}, at)
			wantNotRestart(t, api.Clock{Rate: r, On: api.MaxTime, Adj: -api.MaxTime}, at)
		}
	}
}

func TestRestartWrongClocks(t *testing.T) {
	for _, c := range wrong() {
		for _, at := range []int64{0, 1, 10, api.MaxTime, -1, api.MaxTime + 1, math.MinInt64, math.MaxInt64} {
			wantNotRestart(t, c, at)
		}
	}
}

// P6.4

// twoTimes are two at which a clock is on, the first one not behind the other.
func twoTimes(r *rand.Rand, c api.Clock) (first, second int64) {
	first = c.On + r.Int63n(api.MaxTime-c.On+1)>>r.Intn(33)
	second = first + r.Int63n(api.MaxTime-first+1)>>r.Intn(33)
	return first, second
}

func reads(t *testing.T, c api.Clock, at int64) int64 {
	t.Helper()
	n, err := rate.Reads(c, at)
	if err != api.OK {
		t.Fatalf("%v at %d: error %d", c, at, err)
	}
	return n
}

func TestAClockNeverGoesBack(t *testing.T) {
	r := rand.New(rand.NewSource(61))
	for range 20000 {
		c := random(r)
		first, second := twoTimes(r, c)
		a, b := reads(t, c, first), reads(t, c, second)
		if a != reading(c, first) || b != reading(c, second) {
			t.Errorf("%v at %d and %d: reads %d and %d", c, first, second, a, b)
		}
		if b < a || b > a+2*(second-first)+1 {
			t.Errorf("%v goes from %d at %d to %d at %d", c, a, first, b, second)
		}
	}
}

func TestAClockGoesBackByBeingSet(t *testing.T) {
	r := rand.New(rand.NewSource(62))
	for range 20000 {
		c := random(r)
		at, _ := twoTimes(r, c)
		by := r.Int63n(2*api.MaxTime+1) - api.MaxTime - c.Adj
		s, err := rate.Set(c, by)
		if err != api.OK || reads(t, s, at) != reads(t, c, at)+by {
			t.Errorf("%v set by %d: %v, error %d", c, by, s, err)
		}
	}
}

func TestWhenAndReads(t *testing.T) {
	r := rand.New(rand.NewSource(63))
	for range 20000 {
		c := random(r)
		at, _ := twoTimes(r, c)
		n := reads(t, c, at)
		first, err := rate.When(c, n)
		if err != api.OK || first > at || reads(t, c, first) != n && first != c.On && c.Rate.Num <= c.Rate.Den {
			t.Errorf("%v reads %d at %d, first at %d, error %d", c, n, at, first, err)
		}
		wantFirst(t, c, n)
		wantFirst(t, c, n-r.Int63n(100))
		if more := n + 1 + r.Int63n(100); more <= reading(c, api.MaxTime) {
			wantFirst(t, c, more)
		} else {
			wantNever(t, c, more, api.ErrNever)
		}
	}
}

func TestAClockThatKeepsABoundGoesOnAsTimeDoes(t *testing.T) {
	r := rand.New(rand.NewSource(64))
	kept := 0
	for range 40000 {
		c := random(r)
		rho := 4 + r.Int63n(api.MaxRho-3)>>r.Intn(21)
		if rate.Keeps(c.Rate, rho) != api.OK {
			continue
		}
		kept++
		first, second := twoTimes(r, c)
		time := second - first
		apart := reads(t, c, second) - reads(t, c, first) - time
		// A part of the time, and less than 1: all of it rho times.
		if max(apart, -apart)*rho >= time+rho {
			t.Errorf("%v keeps %d, and is by %d apart from %d behind %d", c, rho, apart, second, first)
		}
	}
	if kept < 1000 {
		t.Errorf("%d clocks that keep a bound are too few", kept)
	}
}

// Wrong numbers, all at once.

func TestNoAnswerOfANumberThatRanOver(t *testing.T) {
	edges := []int64{math.MinInt64, math.MinInt64 + 1, -1 << 32, -1, 0, 1, 2, 4, 1 << 16, 1 << 20, 1 << 32, 1<<32 + 1, 1 << 62, 1<<62 + 1, math.MaxInt64 - 1, math.MaxInt64}
	for _, num := range edges {
		for _, den := range edges {
			for _, on := range edges {
				for _, adj := range edges {
					wantSound(t, clock(num, den, on, adj), edges)
				}
			}
		}
	}
}

// mayBe says whether a clock may be, in numbers that don't run over.
func mayBe(c api.Clock) bool {
	twice := new(big.Int).Lsh(whole(c.Rate.Den), 1)
	den, num := c.Rate.Den >= 1 && c.Rate.Den <= 1<<16, c.Rate.Num >= 1 && whole(c.Rate.Num).Cmp(twice) <= 0
	return den && num && c.On >= 0 && c.On <= 1<<32 && c.Adj >= -1<<32 && c.Adj <= 1<<32
}

// wantSound wants of one clock, with each number, what the chapter says.
func wantSound(t *testing.T, c api.Clock, numbers []int64) {
	t.Helper()
	if err := rate.Check(c); err == api.OK != mayBe(c) || err != api.OK && err != api.ErrRate {
		t.Errorf("%v: error %d", c, err)
	}
	if !mayBe(c) {
		for _, n := range numbers {
			wantNotRead(t, c, n)
			wantNever(t, c, n, api.ErrRate)
			wantNotSet(t, c, n)
			wantNotRestart(t, c, n)
		}
		return
	}
	for _, n := range numbers {
		if n >= c.On && n <= 1<<32 {
			wantReads(t, c, n, reading(c, n))
		} else {
			wantNotRead(t, c, n)
		}
		if n <= reading(c, 1<<32) {
			wantFirst(t, c, n)
		} else {
			wantNever(t, c, n, api.ErrNever)
		}
		if sum := new(big.Int).Add(whole(c.Adj), whole(n)); sum.CmpAbs(whole(1<<32)) <= 0 {
			wantSet(t, c, n)
		} else {
			wantNotSet(t, c, n)
		}
		if n >= 0 && n <= 1<<32 {
			wantRestart(t, c, n)
		} else {
			wantNotRestart(t, c, n)
		}
	}
}
