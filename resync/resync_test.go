package resync_test

import (
	"math"
	"math/rand"
	"slices"
	"testing"

	"vespers/api"
	"vespers/plan"
	"vespers/resync"
)

// leastOfFour is the least plan of four nodes: K 1, Cap 64.
var leastOfFour = api.Plan{
	Nodes: 4, K: 1, Slot: 512, SendOff: 248, Window: 96, Air: 1, Dmin: 1, Dmax: 3, Rho: 100000, Pi: 88, Cap: 64,
	Delta: 10416, Queue: 2, Burst: 1, Payload: 8, Horizon: 81920,
}

// wide is a plan with a Cap that is far above its least.
var wide = api.Plan{
	Nodes: 4, K: 0, Slot: 1 << 20, SendOff: 1<<18 + 1000, Window: 300, Air: 1, Dmin: 1, Dmax: 3, Rho: 1 << 20, Pi: 200, Cap: 1 << 18,
	Delta: 1 << 25, Queue: 2, Burst: 1, Payload: 8, Horizon: 1 << 28,
}

// farBy are numbers that no value is.
var farBy = []int64{
	math.MinInt64, math.MinInt64 + 1, -1 << 62, -1 << 33, -greatest - 2, -greatest - 1,
	greatest + 1, greatest + 2, 1 << 33, 1 << 62, math.MaxInt64 - 1, math.MaxInt64,
}

// nothing is what was done from the begin on.
var nothing api.Sync

// ofK is the least plan by which so many may be faulty.
func ofK(t *testing.T, k int) api.Plan {
	t.Helper()
	p, err := plan.Fit(api.Plan{Nodes: max(4, 2*k+2), K: k, Air: 1, Dmin: 1, Dmax: 3, Rho: 100000, Queue: 2, Burst: 1, Payload: 8})
	if err != api.OK {
		t.Fatalf("no plan of K %d: error %d", k, err)
	}
	return p
}

// plans are plans that may be, of each K from 0 to 7, and one whose Cap is great.
func plans(t *testing.T) (all []api.Plan) {
	t.Helper()
	for k := range 8 {
		all = append(all, ofK(t, k))
	}
	return append(all, wide)
}

// wrongPlans are plans that may not be: the first condition that each one
// breaks is told by its place, from 1 on.
func wrongPlans() []api.Plan {
	var all []api.Plan
	for _, spoil := range []func(p *api.Plan){
		func(p *api.Plan) { p.K = 2 },
		func(p *api.Plan) { p.Air = 0 },
		func(p *api.Plan) { p.Rho = 3 },
		func(p *api.Plan) { p.Pi = 87 },
		func(p *api.Plan) { p.Window = 95 },
		func(p *api.Plan) { p.Cap = 63 },
		func(p *api.Plan) { p.SendOff = 247 },
		func(p *api.Plan) { p.Slot = 511 },
		func(p *api.Plan) { p.Queue = 0 },
		func(p *api.Plan) { p.Delta = 10415 },
		func(p *api.Plan) { p.Horizon = 1<<31 + 1 },
	} {
		p := leastOfFour
		spoil(&p)
		all = append(all, p)
	}
	return all
}

// worstPlans are plans that are far from what may be.
func worstPlans() []api.Plan {
	all := []api.Plan{{}}
	for _, k := range []int{math.MinInt, math.MinInt + 1, -1 << 62, -2, -1, 2, 8, 1 << 62, 1<<62 - 1, math.MaxInt - 1, math.MaxInt} {
		p := leastOfFour
		p.K = k
		all = append(all, p)
	}
	for _, most := range []int64{math.MinInt64, -1, 0, 1<<20 + 1, math.MaxInt64} {
		p := leastOfFour
		p.Cap = most
		all = append(all, p)
	}
	return all
}

// check asks for the correction, and wants what was said of it.
func check(t *testing.T, p api.Plan, l []int64, by int64, err api.Errno) {
	t.Helper()
	before := slices.Clone(l)
	gotBy, gotErr := resync.Correction(p, l)
	if gotBy != by || gotErr != err {
		t.Errorf("Correction of %v, K %d, Cap %d: %d, error %d; want %d, error %d", l, p.K, p.Cap, gotBy, gotErr, by, err)
	}
	if !slices.Equal(l, before) {
		t.Errorf("what was handed in is %v, and was %v", l, before)
	}
}

// corrects wants a correction, from the function and from the words.
func corrects(t *testing.T, p api.Plan, l []int64, by int64) {
	t.Helper()
	check(t, p, l, by, api.OK)
	if told, err := corrected(p, l); told != by || err != api.OK {
		t.Errorf("%v, K %d, by the words: %d, error %d; want %d", l, p.K, told, err, by)
	}
}

// loses wants that sync is lost, from the function and from the words.
func loses(t *testing.T, p api.Plan, l []int64) {
	t.Helper()
	check(t, p, l, 0, api.ErrSync)
	if _, err := corrected(p, l); err != api.ErrSync {
		t.Errorf("%v, K %d, by the words: error %d", l, p.K, err)
	}
}

// refuses wants ErrResync, and nothing else, of each function that is given these.
func refuses(t *testing.T, p api.Plan, l []int64) {
	t.Helper()
	check(t, p, l, 0, api.ErrResync)
	checkTurn(t, p, nothing, l, turn{err: api.ErrResync})
	checkTurn(t, p, api.Sync{Rounds: 7, Set: 3, Total: 5, Lost: true}, l, turn{err: api.ErrResync})
	checkFold(t, p, [][]int64{l}, nothing, api.ErrResync)
}

// checkTurn asks for a round, and wants what was said of it.
func checkTurn(t *testing.T, p api.Plan, s api.Sync, l []int64, want turn) {
	t.Helper()
	before := slices.Clone(l)
	next, by, err := resync.Turn(p, s, l)
	if got := (turn{next, by, err}); got != want {
		t.Errorf("Turn of %+v by %v, K %d, Cap %d: %+v; want %+v", s, l, p.K, p.Cap, got, want)
	}
	if !slices.Equal(l, before) {
		t.Errorf("what was handed in is %v, and was %v", l, before)
	}
}

// turns wants what comes of a round, from the function and from the words.
func turns(t *testing.T, p api.Plan, s api.Sync, l []int64, want turn) {
	t.Helper()
	checkTurn(t, p, s, l, want)
	if told := turned(p, s, l); told != want {
		t.Errorf("%+v by %v, K %d, by the words: %+v; want %+v", s, l, p.K, told, want)
	}
}

// checkFold asks for rounds, and wants what was said of them.
func checkFold(t *testing.T, p api.Plan, rounds [][]int64, want api.Sync, err api.Errno) {
	t.Helper()
	got, gotErr := resync.Fold(p, rounds...)
	if got != want || gotErr != err {
		t.Errorf("Fold of %d rounds, K %d, Cap %d: %+v, error %d; want %+v, error %d", len(rounds), p.K, p.Cap, got, gotErr, want, err)
	}
}

// folds wants what was done behind rounds, from the function and from the words.
func folds(t *testing.T, p api.Plan, rounds [][]int64, want api.Sync, err api.Errno) {
	t.Helper()
	checkFold(t, p, rounds, want, err)
	if told, toldErr := folded(p, rounds); told != want || toldErr != err {
		t.Errorf("%v, K %d, by the words: %+v, error %d; want %+v, error %d", rounds, p.K, told, toldErr, want, err)
	}
}

// same is so many values that are alike.
func same(value int64, many int) []int64 { return slices.Repeat([]int64{value}, many) }

// nearCap are numbers at which something changes, of a plan.
func nearCap(p api.Plan) []int64 {
	return []int64{
		-greatest, -p.Cap - 2, -p.Cap - 1, -p.Cap, -p.Cap + 1, -2, -1, 0,
		1, 2, p.Cap - 1, p.Cap, p.Cap + 1, p.Cap + 2, greatest,
	}
}

// some is so many values, by a plan: near one another, or any.
func some(r *rand.Rand, p api.Plan, many int) []int64 {
	edges := nearCap(p)
	l := make([]int64, many)
	for n := range l {
		switch r.Intn(5) {
		case 0:
			l[n] = edges[r.Intn(len(edges))]
		case 1:
			l[n] = r.Int63n(2*greatest+1) - greatest
		default:
			l[n] = r.Int63n(2*p.Cap+9) - p.Cap - 4
		}
	}
	return l
}

// shuffled is a list in any order.
func shuffled(r *rand.Rand, l []int64) []int64 {
	mixed := slices.Clone(l)
	r.Shuffle(len(mixed), func(a, b int) { mixed[a], mixed[b] = mixed[b], mixed[a] })
	return mixed
}

func TestExamples(t *testing.T) {
	p := ofK(t, 1)
	if p != leastOfFour {
		t.Fatalf("the least plan of four nodes is %+v", p)
	}
	corrects(t, p, []int64{0, 10, 20, 400}, -15)
	corrects(t, p, []int64{0, -3}, 0)
	loses(t, p, []int64{0, 65, 66, 67})
	turns(t, p, nothing, []int64{0, 10, 20, 400}, turn{api.Sync{Rounds: 1, Set: 1, Total: -15}, -15, api.OK})
}

func TestLimits(t *testing.T) {
	if api.OK != 0 || api.ErrResync != 150 || api.ErrSync != 151 {
		t.Error("other errors than the document's")
	}
	if api.MaxDeviation != greatest || api.MaxTime != mostTime || api.MaxRound != mostRuns {
		t.Error("other limits than the document's")
	}
}

// The plans that are used here are what they are said to be.
func TestPlans(t *testing.T) {
	for n, p := range plans(t) {
		if plan.Check(p) != api.OK || n < 8 && p.K != n {
			t.Errorf("plan %d, %+v: condition %d", n, p, plan.Fails(p))
		}
	}
	for n, p := range wrongPlans() {
		if plan.Fails(p) != n+1 {
			t.Errorf("wrong plan %d breaks condition %d", n+1, plan.Fails(p))
		}
	}
	for _, p := range worstPlans() {
		if plan.Check(p) == api.OK {
			t.Errorf("%+v may be", p)
		}
	}
}

// P15.1: fewer than 2 K + 1 values correct nothing, however far off they are.
func TestFewValues(t *testing.T) {
	for _, p := range plans(t) {
		corrects(t, p, nil, 0)
		corrects(t, p, []int64{}, 0)
		for many := range 2*p.K + 1 {
			for _, value := range nearCap(p) {
				corrects(t, p, same(value, many), 0)
			}
		}
		for many := 2*p.K + 1; many <= 2*p.K+4; many++ {
			corrects(t, p, same(5, many), -5)
			corrects(t, p, same(-5, many), 5)
			loses(t, p, same(greatest, many))
			loses(t, p, same(-greatest, many))
		}
	}
}

// P15.1: just at the cap sync is not lost, and just beyond it it is.
func TestCap(t *testing.T) {
	for _, p := range plans(t) {
		for many := 2*p.K + 1; many <= 2*p.K+3; many++ {
			for _, by := range []int64{0, 1, -1, 2, -2, p.Cap - 1, 1 - p.Cap, p.Cap, -p.Cap} {
				corrects(t, p, same(-by, many), by)
			}
			for _, by := range []int64{p.Cap + 1, -p.Cap - 1, p.Cap + 2, -p.Cap - 2, 2 * p.Cap, greatest, -greatest} {
				loses(t, p, same(-by, many))
			}
		}
	}
}

// P15.1: the cap is the plan's, and not the least one.
func TestOtherCaps(t *testing.T) {
	for most := int64(64); most < 80; most++ {
		p := leastOfFour
		p.Slot, p.Cap, p.SendOff, p.Delta, p.Horizon = 4096, most, 400, 1<<18, 1<<20
		if plan.Check(p) != api.OK {
			t.Fatalf("%+v: condition %d", p, plan.Fails(p))
		}
		for off := int64(-90); off <= 90; off++ {
			if off > most || off < -most {
				loses(t, p, same(off, 4))
			} else {
				corrects(t, p, same(off, 4), -off)
			}
		}
	}
}

// P15.1: the midpoint is rounded down first, and its sign is turned then.
func TestRounding(t *testing.T) {
	for _, p := range plans(t) {
		for _, c := range []struct{ least, most, by int64 }{
			{0, 1, 0}, {-1, 0, 1}, {1, 2, -1}, {-2, -1, 2}, {-2, 1, 1}, {-1, 2, 0}, {-7, 4, 2}, {-4, 7, -1},
			{-1, 1, 0}, {2, 4, -3}, {-4, -2, 3}, {0, 0, 0}, {10, 13, -11}, {-13, -10, 12},
			{p.Cap, p.Cap + 1, -p.Cap}, {p.Cap - 1, p.Cap, 1 - p.Cap}, {-p.Cap, 1 - p.Cap, p.Cap},
			{p.Cap - 1, p.Cap + 1, -p.Cap}, {-p.Cap - 1, 1 - p.Cap, p.Cap},
			{p.Cap - 1, p.Cap + 2, -p.Cap}, {-p.Cap - 1, 2 - p.Cap, p.Cap},
			{-greatest, greatest, 0}, {-greatest, greatest - 1, 1}, {1 - greatest, greatest, 0},
		} {
			l := slices.Concat(same(-greatest, p.K), same(greatest, p.K), []int64{c.most, c.least})
			corrects(t, p, l, c.by)
		}
		for _, c := range []struct{ least, most int64 }{
			{-p.Cap - 1, -p.Cap}, {p.Cap + 1, p.Cap + 1}, {p.Cap, p.Cap + 2}, {-p.Cap - 2, -p.Cap},
			{-greatest, 0}, {0, greatest}, {-greatest, -greatest}, {greatest, greatest},
		} {
			l := slices.Concat(same(-greatest, p.K), []int64{c.most, c.least}, same(greatest, p.K))
			loses(t, p, l)
		}
	}
}

// P15.1: just the K least and the K greatest values are dropped.
func TestDropped(t *testing.T) {
	r := rand.New(rand.NewSource(151))
	for _, p := range plans(t) {
		good := []int64{-9, -4, 3, 8}
		for above := 0; above <= p.K; above++ {
			l := slices.Concat(good, same(greatest, above), same(-greatest, p.K-above), same(3, p.K))
			by, err := corrected(p, l)
			if err != api.OK || by < -8 || by > 9 {
				t.Errorf("%v, K %d, by the words: %d, error %d", l, p.K, by, err)
			}
			for range 4 {
				corrects(t, p, shuffled(r, l), by)
			}
		}
		loses(t, p, slices.Concat(same(greatest, p.K+1), same(0, p.K+1)))
		loses(t, p, slices.Concat(same(-greatest, p.K+1), same(0, p.K+1)))
	}
	corrects(t, leastOfFour, []int64{400, 20, 10, 0}, -15)
	corrects(t, leastOfFour, []int64{20, 0, 400, 10}, -15)
	corrects(t, leastOfFour, []int64{0, 0, 0, 400}, 0)
	corrects(t, leastOfFour, []int64{0, 0, 30, 30}, -15)
}

// P15.1: all short lists of numbers at which something changes.
func TestAllShortLists(t *testing.T) {
	for _, p := range []api.Plan{ofK(t, 0), ofK(t, 1), wide} {
		var grow func(l []int64)
		grow = func(l []int64) {
			by, err := corrected(p, l)
			check(t, p, l, by, err)
			if len(l) == 4 {
				return
			}
			for _, n := range []int64{-greatest, -p.Cap - 1, -p.Cap, -1, 0, 1, p.Cap, p.Cap + 1} {
				grow(append(slices.Clone(l), n))
			}
		}
		grow(nil)
	}
}

// P15.1: lists of any length and order.
func TestAnyLists(t *testing.T) {
	r := rand.New(rand.NewSource(152))
	for _, p := range plans(t) {
		for range 1500 {
			l := some(r, p, r.Intn(20))
			by, err := corrected(p, l)
			check(t, p, l, by, err)
		}
	}
}

// P15.1, P15.2, P15.3: what is no value is refused at each place, also where
// there are too few, or where it would be dropped.
func TestWrongValues(t *testing.T) {
	for _, p := range []api.Plan{ofK(t, 0), ofK(t, 1), ofK(t, 2), ofK(t, 7), wide} {
		for _, far := range farBy {
			for many := 1; many <= 2*p.K+3; many++ {
				for place := range many {
					l := same(3, many)
					l[place] = far
					refuses(t, p, l)
				}
			}
			refuses(t, p, []int64{far, greatest, greatest, greatest})
			refuses(t, p, []int64{-greatest, -greatest, -greatest, far})
			refuses(t, p, []int64{far, -far, far})
		}
	}
}

// P15.1, P15.2, P15.3: a plan that may not be is refused, whatever the values are.
func TestWrongPlans(t *testing.T) {
	for _, p := range append(wrongPlans(), worstPlans()...) {
		for _, l := range [][]int64{
			nil, {}, {0}, {0, -3}, {0, 10, 20, 400}, {0, 65, 66, 67}, same(greatest, 9), same(0, 40),
			{greatest + 1}, {math.MinInt64, 0, 0, 0},
		} {
			refuses(t, p, l)
		}
	}
}

// P15.1: Enough is at 2 K + 1, and above.
func TestEnough(t *testing.T) {
	for _, p := range plans(t) {
		for _, many := range []int{0, 1, 2*p.K - 1, 2 * p.K, 2*p.K + 1, 2*p.K + 2, 3*p.K + 1, 16, 100, 1 << 20, 1<<31 - 1, 1 << 31, 1 << 32, 1 << 62, math.MaxInt - 1, math.MaxInt} {
			if resync.Enough(p, many) != (many >= 2*p.K+1) || areEnough(p, many) != (many >= 2*p.K+1) {
				t.Errorf("Enough of %d, K %d: %v, by the words %v", many, p.K, resync.Enough(p, many), areEnough(p, many))
			}
		}
		for _, many := range []int{math.MinInt, math.MinInt + 1, -1 << 62, -1 << 32, -1 << 31, -100, -15, -3, -2, -1} {
			if resync.Enough(p, many) {
				t.Errorf("Enough of %d, K %d", many, p.K)
			}
		}
	}
	if resync.Enough(leastOfFour, 2) || !resync.Enough(leastOfFour, 3) || !resync.Enough(wide, 1) {
		t.Error("Enough of 2, or not of 3, by K 1; or not of 1, by K 0")
	}
}

// P15.1: nothing is enough for a plan that may not be.
func TestEnoughOfWrongPlans(t *testing.T) {
	for _, p := range append(wrongPlans(), worstPlans()...) {
		for _, many := range []int{math.MinInt, -1, 0, 1, 3, 4, 16, 1 << 40, math.MaxInt} {
			if resync.Enough(p, many) {
				t.Errorf("Enough of %d by %+v", many, p)
			}
		}
	}
}

// P15.2: a round more, a setting more if the clock is set, and by how much in all.
func TestTurn(t *testing.T) {
	p := leastOfFour
	s := api.Sync{Rounds: 9, Set: 4, Total: 100}
	turns(t, p, s, same(7, 4), turn{api.Sync{Rounds: 10, Set: 5, Total: 93}, -7, api.OK})
	turns(t, p, s, same(-7, 4), turn{api.Sync{Rounds: 10, Set: 5, Total: 107}, 7, api.OK})
	turns(t, p, s, same(64, 4), turn{api.Sync{Rounds: 10, Set: 5, Total: 36}, -64, api.OK})
	turns(t, p, s, same(-64, 4), turn{api.Sync{Rounds: 10, Set: 5, Total: 164}, 64, api.OK})
	turns(t, p, api.Sync{Rounds: 3, Set: 3, Total: 7}, same(7, 4), turn{api.Sync{Rounds: 4, Set: 4}, -7, api.OK})
	turns(t, p, nothing, same(1, 3), turn{api.Sync{Rounds: 1, Set: 1, Total: -1}, -1, api.OK})
	turns(t, p, nothing, same(-1, 3), turn{api.Sync{Rounds: 1, Set: 1, Total: 1}, 1, api.OK})
}

// P15.2: a round that sets nothing is a round.
func TestTurnSetsNothing(t *testing.T) {
	p := leastOfFour
	for _, s := range []api.Sync{nothing, {Rounds: 9, Set: 4, Total: 100}, {Rounds: 5, Set: 5, Total: -mostTime}, {Rounds: 5, Total: mostTime}} {
		next := s
		next.Rounds++
		for _, l := range [][]int64{nil, {}, {60}, {-60}, {0, -3}, {greatest, greatest}, {0, 0, 0}, {-9, 0, 9}, {0, 1, 0, 1}, {-5, 5, greatest, -greatest}} {
			turns(t, p, s, l, turn{next, 0, api.OK})
		}
	}
}

// P15.2: whoever loses sync keeps what was done, and is lost.
func TestTurnLoses(t *testing.T) {
	for _, p := range plans(t) {
		for _, s := range []api.Sync{
			nothing, {Rounds: 9, Set: 4, Total: 100}, {Rounds: 1}, {Rounds: 1, Set: 1, Total: -5},
			{Rounds: mostRuns}, {Rounds: mostRuns, Set: mostRuns, Total: mostTime}, {Rounds: 2, Set: 2, Total: -mostTime},
		} {
			lost := s
			lost.Lost = true
			many := 2*p.K + 1
			for _, off := range []int64{p.Cap + 1, -p.Cap - 1, greatest, -greatest} {
				turns(t, p, s, same(off, many), turn{lost, 0, api.ErrSync})
				turns(t, p, lost, same(off, many+1), turn{lost, 0, api.ErrSync})
			}
			turns(t, p, s, slices.Concat(same(-p.Cap-1, p.K+1), same(-p.Cap, p.K+1)), turn{lost, 0, api.ErrSync})
		}
	}
}

// P15.2: whoever is lost stays so, whatever the values are, as long as they are some.
func TestTurnOfLost(t *testing.T) {
	p := leastOfFour
	for _, lost := range []api.Sync{
		{Lost: true}, {Rounds: 9, Set: 4, Total: 100, Lost: true}, {Rounds: 9, Set: 9, Total: -mostTime, Lost: true},
		{Rounds: mostRuns, Set: mostRuns, Total: mostTime, Lost: true}, {Rounds: mostRuns, Lost: true}, {Rounds: mostRuns - 1, Total: 1, Lost: true},
	} {
		for _, l := range [][]int64{nil, {}, {0}, {0, -3}, {0, 10, 20, 400}, same(64, 4), same(-64, 4), same(65, 4), same(-65, 4), same(0, 3)} {
			turns(t, p, lost, l, turn{lost, 0, api.ErrSync})
		}
		checkTurn(t, p, lost, []int64{greatest + 1}, turn{err: api.ErrResync})
		checkTurn(t, p, lost, []int64{0, 0, 0, -greatest - 1}, turn{err: api.ErrResync})
		checkTurn(t, wrongPlans()[5], lost, []int64{0, 10, 20, 400}, turn{err: api.ErrResync})
	}
}

// P15.2: what may not have been done is refused, be it lost or not, and
// whatever the values are.
func TestTurnOfWrongSync(t *testing.T) {
	wrong := []api.Sync{
		{Rounds: -1}, {Rounds: -1, Set: -1}, {Rounds: -2, Set: -2}, {Rounds: mostRuns + 1}, {Rounds: mostRuns + 2, Set: 5},
		{Rounds: mostRuns + 1, Set: mostRuns + 1},
		{Rounds: math.MinInt}, {Rounds: math.MaxInt}, {Rounds: math.MinInt, Set: math.MinInt}, {Rounds: math.MaxInt, Set: math.MaxInt},
		{Rounds: 1 << 32}, {Rounds: 1<<32 + 5}, {Rounds: -1 << 32},
		{Set: -1}, {Set: 1}, {Rounds: 5, Set: -1}, {Rounds: 5, Set: 6}, {Rounds: 5, Set: -6}, {Rounds: mostRuns, Set: mostRuns + 1},
		{Rounds: 5, Set: math.MinInt}, {Rounds: 5, Set: math.MaxInt}, {Rounds: 5, Set: 1<<32 + 5},
		{Total: mostTime + 1}, {Total: -mostTime - 1}, {Total: mostTime + 2}, {Total: -mostTime - 2},
		{Rounds: 5, Set: 5, Total: mostTime + 1}, {Rounds: 5, Set: 5, Total: -mostTime - 1},
		{Total: math.MinInt64}, {Total: math.MinInt64 + 1}, {Total: math.MaxInt64}, {Total: math.MaxInt64 - 1},
		{Rounds: 5, Set: 2, Total: 1 << 33}, {Rounds: 5, Set: 2, Total: -1 << 33},
	}
	for _, s := range wrong {
		for _, s.Lost = range []bool{false, true} {
			for _, p := range []api.Plan{leastOfFour, wide} {
				for _, l := range [][]int64{nil, {0, -3}, {0, 10, 20, 400}, same(1, 4), same(-1, 4), same(greatest, 4), same(-greatest, 4), {greatest + 1}} {
					turns(t, p, s, l, turn{err: api.ErrResync})
				}
			}
		}
	}
}

// P15.2: what was done may go up to each bound.
func TestTurnAtBounds(t *testing.T) {
	p := leastOfFour
	for _, c := range []struct {
		s    api.Sync
		off  int64
		next api.Sync
	}{
		{api.Sync{Rounds: mostRuns - 1}, 0, api.Sync{Rounds: mostRuns}},
		{api.Sync{Rounds: mostRuns - 1}, 1, api.Sync{Rounds: mostRuns, Set: 1, Total: -1}},
		{api.Sync{Rounds: mostRuns - 1, Set: mostRuns - 1}, -1, api.Sync{Rounds: mostRuns, Set: mostRuns, Total: 1}},
		{api.Sync{Rounds: 3, Set: 3, Total: mostTime - 64}, -64, api.Sync{Rounds: 4, Set: 4, Total: mostTime}},
		{api.Sync{Rounds: 3, Set: 3, Total: 64 - mostTime}, 64, api.Sync{Rounds: 4, Set: 4, Total: -mostTime}},
		{api.Sync{Rounds: 3, Set: 0, Total: mostTime - 1}, -1, api.Sync{Rounds: 4, Set: 1, Total: mostTime}},
		{api.Sync{Rounds: 3, Set: 0, Total: 1 - mostTime}, 1, api.Sync{Rounds: 4, Set: 1, Total: -mostTime}},
		{api.Sync{Rounds: 3, Set: 2, Total: mostTime}, 0, api.Sync{Rounds: 4, Set: 2, Total: mostTime}},
		{api.Sync{Rounds: 3, Set: 2, Total: -mostTime}, 0, api.Sync{Rounds: 4, Set: 2, Total: -mostTime}},
		{api.Sync{Rounds: 3, Set: 2, Total: mostTime}, 64, api.Sync{Rounds: 4, Set: 3, Total: mostTime - 64}},
		{api.Sync{Rounds: 3, Set: 2, Total: -mostTime}, -64, api.Sync{Rounds: 4, Set: 3, Total: 64 - mostTime}},
	} {
		turns(t, p, c.s, same(c.off, 4), turn{c.next, -c.off, api.OK})
	}
}

// P15.2: what comes of a round may not go beyond a bound.
func TestTurnBeyondBounds(t *testing.T) {
	p := leastOfFour
	for _, c := range []struct {
		s   api.Sync
		off int64
	}{
		{api.Sync{Rounds: mostRuns}, 0}, {api.Sync{Rounds: mostRuns}, 1}, {api.Sync{Rounds: mostRuns, Set: mostRuns}, -1},
		{api.Sync{Rounds: mostRuns, Set: mostRuns}, 0},
		{api.Sync{Rounds: 3, Total: mostTime}, -1}, {api.Sync{Rounds: 3, Total: -mostTime}, 1},
		{api.Sync{Rounds: 3, Total: mostTime - 63}, -64}, {api.Sync{Rounds: 3, Total: 63 - mostTime}, 64},
		{api.Sync{Rounds: 3, Set: 3, Total: mostTime}, -64}, {api.Sync{Rounds: 3, Set: 3, Total: -mostTime}, 64},
	} {
		turns(t, p, c.s, same(c.off, 4), turn{err: api.ErrResync})
	}
	turns(t, p, api.Sync{Rounds: mostRuns}, nil, turn{err: api.ErrResync})
	turns(t, p, api.Sync{Rounds: mostRuns, Set: 5}, []int64{7, 7}, turn{err: api.ErrResync})
}

// P15.2: any states, by any values.
func TestAnyTurns(t *testing.T) {
	r := rand.New(rand.NewSource(153))
	rounds := []int{-1, 0, 1, 2, 50, mostRuns - 1, mostRuns, mostRuns + 1}
	for _, p := range plans(t) {
		totals := []int64{-mostTime - 1, -mostTime, -mostTime + 1, p.Cap - mostTime, -3, 0, 3, mostTime - p.Cap, mostTime - 1, mostTime, mostTime + 1}
		for range 1500 {
			s := api.Sync{Rounds: rounds[r.Intn(len(rounds))], Total: totals[r.Intn(len(totals))], Lost: r.Intn(4) == 0}
			s.Set = []int{-1, 0, s.Rounds / 2, s.Rounds, s.Rounds + 1}[r.Intn(5)]
			l := some(r, p, r.Intn(2*p.K+6))
			if r.Intn(20) == 0 && len(l) > 0 {
				l[r.Intn(len(l))] = farBy[r.Intn(len(farBy))]
			}
			checkTurn(t, p, s, l, turned(p, s, l))
		}
	}
}

// P15.3: rounds go on from nothing, one by one.
func TestFold(t *testing.T) {
	p := leastOfFour
	folds(t, p, nil, nothing, api.OK)
	folds(t, p, [][]int64{}, nothing, api.OK)
	folds(t, p, [][]int64{{0, 10, 20, 400}}, api.Sync{Rounds: 1, Set: 1, Total: -15}, api.OK)
	folds(t, p, [][]int64{{0, -3}}, api.Sync{Rounds: 1}, api.OK)
	folds(t, p, [][]int64{nil}, api.Sync{Rounds: 1}, api.OK)
	folds(t, p, [][]int64{{0, 0, 0}}, api.Sync{Rounds: 1}, api.OK)
	folds(t, p, [][]int64{{0, 10, 20, 400}, {7}, {0, 0, 0}, same(-64, 4), nil, same(9, 3)}, api.Sync{Rounds: 6, Set: 3, Total: 40}, api.OK)
	folds(t, wide, [][]int64{{4}, {-9}, nil, {1 << 18}}, api.Sync{Rounds: 4, Set: 3, Total: 5 - 1<<18}, api.OK)
	got, err := resync.Fold(p)
	if got != nothing || err != api.OK {
		t.Errorf("Fold of no rounds: %+v, error %d", got, err)
	}
	got, err = resync.Fold(p, []int64{1, 1, 1}, []int64{2, 2, 2})
	if got != (api.Sync{Rounds: 2, Set: 2, Total: -3}) || err != api.OK {
		t.Errorf("Fold of two rounds: %+v, error %d", got, err)
	}
}

// P15.3: when sync is lost, what was done ahead of that is told, and nothing
// that comes behind changes it.
func TestFoldLoses(t *testing.T) {
	p := leastOfFour
	good, far, wrong := []int64{0, 10, 20, 400}, []int64{0, 65, 66, 67}, []int64{0, 0, 0, greatest + 1}
	folds(t, p, [][]int64{far}, api.Sync{Lost: true}, api.ErrSync)
	folds(t, p, [][]int64{far, good}, api.Sync{Lost: true}, api.ErrSync)
	folds(t, p, [][]int64{good, far}, api.Sync{Rounds: 1, Set: 1, Total: -15, Lost: true}, api.ErrSync)
	folds(t, p, [][]int64{good, {0, -3}, far, good, good}, api.Sync{Rounds: 2, Set: 1, Total: -15, Lost: true}, api.ErrSync)
	folds(t, p, [][]int64{good, far, far, nil}, api.Sync{Rounds: 1, Set: 1, Total: -15, Lost: true}, api.ErrSync)
	folds(t, p, [][]int64{good, far, wrong}, api.Sync{Rounds: 1, Set: 1, Total: -15, Lost: true}, api.ErrSync)
	folds(t, p, [][]int64{far, wrong, good}, api.Sync{Lost: true}, api.ErrSync)
}

// P15.3: a round of what are no values is an error, wherever it stands, unless
// one ahead of it is.
func TestFoldRefuses(t *testing.T) {
	good, far := []int64{0, 10, 20, 400}, []int64{0, 65, 66, 67}
	for _, off := range farBy {
		wrong := []int64{off, 1}
		for _, rounds := range [][][]int64{
			{wrong}, {good, wrong}, {wrong, good}, {good, wrong, good}, {wrong, far}, {good, nil, wrong, far}, {wrong, wrong},
		} {
			folds(t, leastOfFour, rounds, nothing, api.ErrResync)
		}
	}
	for _, p := range wrongPlans() {
		checkFold(t, p, [][]int64{good, good}, nothing, api.ErrResync)
		checkFold(t, p, [][]int64{nil}, nothing, api.ErrResync)
		checkFold(t, p, [][]int64{far, good}, nothing, api.ErrResync)
	}
}

// P15.3: with no rounds there is none that a plan could refuse.
func TestFoldOfNoRounds(t *testing.T) {
	for _, p := range append(append(wrongPlans(), worstPlans()...), plans(t)...) {
		checkFold(t, p, nil, nothing, api.OK)
		checkFold(t, p, [][]int64{}, nothing, api.OK)
	}
}

// P15.3: so many rounds, each by the cap, are as much as may be done in all;
// one more is too much.
func TestFoldToTheBound(t *testing.T) {
	const many = mostTime / (1 << 18)
	for _, off := range []int64{-1 << 18, 1 << 18} {
		rounds := slices.Repeat([][]int64{{off}}, many)
		checkFold(t, wide, rounds, api.Sync{Rounds: many, Set: many, Total: -off * many}, api.OK)
		checkFold(t, wide, append(rounds, nil), api.Sync{Rounds: many + 1, Set: many, Total: -off * many}, api.OK)
		checkFold(t, wide, append(rounds, []int64{off >> 18}), nothing, api.ErrResync)
		checkFold(t, wide, append(rounds, []int64{-off}, []int64{off}), api.Sync{Rounds: many + 2, Set: many + 2, Total: -off * many}, api.OK)
		checkFold(t, wide, append(rounds, []int64{off}, []int64{-off}), nothing, api.ErrResync)
		checkFold(t, wide, append(rounds, []int64{2 * off}, []int64{off}), api.Sync{Rounds: many, Set: many, Total: -off * many, Lost: true}, api.ErrSync)
	}
}

// P15.3: any rounds are what turns, one behind the other, say.
func TestAnyFolds(t *testing.T) {
	r := rand.New(rand.NewSource(154))
	for _, p := range plans(t) {
		for range 300 {
			rounds := make([][]int64, r.Intn(8))
			for n := range rounds {
				l := same(r.Int63n(2*p.Cap+1)-p.Cap, r.Intn(2*p.K+4))
				switch r.Intn(12) {
				case 0:
					l = some(r, p, 2*p.K+2)
				case 1:
					l = append(l, farBy[r.Intn(len(farBy))])
				}
				rounds[n] = l
			}
			want, err := folded(p, rounds)
			checkFold(t, p, rounds, want, err)
			var done turn
			for _, l := range rounds {
				if done.err == api.OK {
					done.next, done.by, done.err = resync.Turn(p, done.next, l)
				}
			}
			checkFold(t, p, rounds, done.next, done.err)
		}
	}
}

// P15.4: what is handed in stays as it is, what lies behind it too.
func TestOnlyRead(t *testing.T) {
	all := []int64{9, -3, 5, 5, -7, 0, 2, 1 << 40, -1 << 40, 77, -77}
	before := slices.Clone(all)
	for _, p := range []api.Plan{ofK(t, 0), leastOfFour, ofK(t, 2), wide, {}} {
		for many := range len(all) + 1 {
			resync.Correction(p, all[:many])
			resync.Turn(p, api.Sync{Rounds: 2, Set: 1}, all[:many])
			rounds := [][]int64{all[:2], all[1:7], nil, all[:many], all}
			kept := slices.Clone(rounds)
			resync.Fold(p, rounds...)
			for n := range rounds {
				if len(rounds[n]) != len(kept[n]) || cap(rounds[n]) != cap(kept[n]) || len(kept[n]) > 0 && &rounds[n][0] != &kept[n][0] {
					t.Fatalf("%d values: round %d is another one", many, n)
				}
			}
			if !slices.Equal(all, before) {
				t.Fatalf("%d values: all are %v, and were %v", many, all, before)
			}
		}
	}
}

// P15.4: nothing is kept: what was handed in may be changed, and the same is
// answered again, behind wrong calls too.
func TestNotKept(t *testing.T) {
	p := leastOfFour
	l := []int64{0, 10, 20, 400}
	for range 3 {
		corrects(t, p, []int64{0, 10, 20, 400}, -15)
		turns(t, p, nothing, []int64{0, 10, 20, 400}, turn{api.Sync{Rounds: 1, Set: 1, Total: -15}, -15, api.OK})
		folds(t, p, [][]int64{l, l}, api.Sync{Rounds: 2, Set: 2, Total: -30}, api.OK)
		for n := range l {
			l[n] = 200
		}
		loses(t, p, l)
		turns(t, p, nothing, l, turn{api.Sync{Lost: true}, 0, api.ErrSync})
		folds(t, p, [][]int64{l}, api.Sync{Lost: true}, api.ErrSync)
		l[0], l[1], l[2], l[3] = 0, 10, 20, greatest+1
		refuses(t, p, l)
		l[3] = 400
	}
}

// fleet is clocks, and of whom all of them see the frames.
type fleet struct {
	clocks []int64
	seen   []int
}

// set is what a clock reads when it has set itself: it has seen each frame as
// late as its own clock is ahead of the sender's, but for its reading errors.
func (f fleet) set(t *testing.T, p api.Plan, own int, errors []int64) int64 {
	t.Helper()
	var values []int64
	for n, sender := range f.seen {
		if sender == own {
			values = append(values, 0)
			continue
		}
		values = append(values, f.clocks[own]-f.clocks[sender]+errors[n])
	}
	by, err := resync.Correction(p, values)
	if err != api.OK {
		t.Fatalf("clocks %v, node %d, errors %v, K %d, Cap %d: error %d", f.clocks, own, errors, p.K, p.Cap, err)
	}
	return f.clocks[own] + by
}

// wantTogether wants what follows: clocks that have set themselves are apart by
// at most 2 d, and lie within d of the range in which all were.
func (f fleet) wantTogether(t *testing.T, now []int64, d int64) {
	t.Helper()
	least, most := slices.Min(now), slices.Max(now)
	if most-least > 2*d {
		t.Fatalf("clocks %v, within %d, are set to %v", f.clocks, d, now)
	}
	if least < slices.Min(f.clocks)-d || most > slices.Max(f.clocks)+d {
		t.Fatalf("clocks %v, within %d, are set to %v: out of range", f.clocks, d, now)
	}
}

// each tells all lists of so many errors that are -d, 0 or d.
func each(many int, d int64, tell func(errors []int64)) {
	var grow func(errors []int64)
	grow = func(errors []int64) {
		if len(errors) == many {
			tell(errors)
			return
		}
		for _, e := range []int64{-d, 0, d} {
			grow(append(slices.Clone(errors), e))
		}
	}
	grow(nil)
}

// P15.5: four nodes, with all reading errors that are none, or as great as may be.
func TestTogether(t *testing.T) {
	for _, p := range []api.Plan{ofK(t, 0), leastOfFour} {
		for _, clocks := range [][]int64{
			{1000, 1000, 1000, 1000}, {1000, 1010, 1020, 1030}, {1000, 1001, 1001, 1001}, {1000, 1056, 1056, 1000},
			{1003, 1000, 1002, 1001}, {1056, 1000, 1000, 1000}, {1000, 1000, 1000, 1055}, {1056, 1029, 1028, 1000},
		} {
			for _, d := range []int64{0, 1, 2, 3, 8} {
				f := fleet{clocks, []int{0, 1, 2, 3}}
				var now []int64
				for own := range clocks {
					each(4, d, func(errors []int64) { now = append(now, f.set(t, p, own, errors)) })
				}
				f.wantTogether(t, now, d)
			}
		}
	}
}

// P15.5: clocks may be apart just by 2 d, and just d out of the range in which all were.
func TestAsFarApart(t *testing.T) {
	f := fleet{[]int64{500, 500, 500, 500}, []int{0, 1, 2, 3}}
	for d := range int64(30) {
		up := f.set(t, leastOfFour, 0, same(-d, 4))
		down := f.set(t, leastOfFour, 1, same(d, 4))
		if up != 500+d || down != 500-d {
			t.Errorf("d %d: clocks at 500 are set to %d and %d", d, up, down)
		}
	}
}

// P15.5: without reading errors all that see the same are set to the same.
func TestExactClocks(t *testing.T) {
	r := rand.New(rand.NewSource(155))
	for range 500 {
		p := ofK(t, r.Intn(8))
		f := anyFleet(r, p, p.Cap)
		for own := range f.clocks {
			if got, first := f.set(t, p, own, same(0, len(f.seen))), f.set(t, p, 0, same(0, len(f.seen))); got != first {
				t.Fatalf("clocks %v, seen %v: node 0 is set to %d, node %d to %d", f.clocks, f.seen, first, own, got)
			}
		}
	}
}

// P15.5: any clocks, any reading errors, and any of them that are seen, as
// many as are enough.
func TestAnyClocks(t *testing.T) {
	r := rand.New(rand.NewSource(156))
	for range 3000 {
		p := ofK(t, r.Intn(8))
		d := r.Int63n(16)
		f := anyFleet(r, p, p.Cap-d)
		var now []int64
		for own := range f.clocks {
			errors := make([]int64, len(f.seen))
			for n := range errors {
				errors[n] = r.Int63n(2*d+1) - d
			}
			now = append(now, f.set(t, p, own, errors))
		}
		f.wantTogether(t, now, d)
	}
}

// anyFleet is the nodes of a plan, with clocks that are apart by at most so
// much, of which at least as many are seen as are enough.
func anyFleet(r *rand.Rand, p api.Plan, apart int64) fleet {
	var f fleet
	for range p.Nodes {
		f.clocks = append(f.clocks, 100000+r.Int63n(apart+1))
	}
	few := 2*p.K + 1
	f.seen = r.Perm(p.Nodes)[:few+r.Intn(p.Nodes-few+1)]
	return f
}
