package window_test

import (
	"math"
	"math/rand"
	"slices"
	"testing"

	"vespers/api"
	"vespers/plan"
	"vespers/table"
	"vespers/window"
)

// four is the least plan of the chapter's examples.
var four = api.Plan{
	Nodes: 4, K: 1, Slot: 512, SendOff: 248, Window: 96, Air: 1, Dmin: 1, Dmax: 3, Rho: 100000, Pi: 88, Cap: 64,
	Delta: 10416, Queue: 2, Burst: 1, Payload: 8, Horizon: 81920,
}

// five has an odd number of nodes, delays whose half is 12 and a half, and a
// window that is wider than it has to be.
var five = api.Plan{
	Nodes: 5, K: 1, Slot: 4099, SendOff: 700, Window: 250, Air: 10, Dmin: 5, Dmax: 20, Rho: 100000, Pi: 200, Cap: 150,
	Delta: 400000, Queue: 5, Burst: 2, Payload: 8, Horizon: 3000000,
}

// longFour has the longest slots that there are, and the longest delays that
// go into them.
var longFour = api.Plan{
	Nodes: 4, K: 1, Slot: api.MaxSlot, SendOff: 489, Window: 186, Air: 1, Dmin: 523793, Dmax: 523794, Rho: api.MaxRho, Pi: 179, Cap: 124,
	Delta: 64 * 4 * api.MaxSlot, Queue: 1, Burst: 1, Payload: 1, Horizon: api.MaxHorizon,
}

// longSixteen has the longest slots, and frames that are sent as late in them
// as can be.
var longSixteen = api.Plan{
	Nodes: 16, K: 7, Slot: api.MaxSlot, SendOff: 1047307, Window: 474, Air: 1, Dmin: 0, Dmax: 1, Rho: api.MaxRho, Pi: 467, Cap: 316,
	Delta: 64 * 16 * api.MaxSlot, Queue: 64, Burst: 8, Payload: 32, Horizon: api.MaxHorizon,
}

func plans() []api.Plan { return []api.Plan{four, five, longFour, longSixteen} }

// somePlans are plans that may be, of any nodes, slots and delays.
func somePlans(r *rand.Rand, many int) []api.Plan {
	var all []api.Plan
	for len(all) < many {
		nodes := 4 + r.Intn(13)
		dmax := r.Int63n(1<<16) >> r.Intn(17)
		p, err := plan.Fit(api.Plan{
			Nodes: nodes, K: r.Intn(nodes / 2),
			Air: 1 + r.Int63n(1<<16)>>r.Intn(17), Dmin: r.Int63n(dmax + 1), Dmax: dmax,
			Rho:   1000 + r.Int63n(api.MaxRho-999),
			Queue: 1 + r.Intn(8), Burst: 1 + r.Intn(api.MaxBurst), Payload: 1 + r.Intn(api.MaxPayload),
		})
		if err == api.OK {
			all = append(all, p)
		}
	}
	return all
}

// broken are plans that may not be: each one's first condition that does not
// hold is that of its place among them; and that of zeros.
func broken() []api.Plan {
	all := []api.Plan{{}}
	for _, turn := range []func(p *api.Plan){
		func(p *api.Plan) { p.K = 2 },
		func(p *api.Plan) { p.Air = 0 },
		func(p *api.Plan) { p.Slot = 0 },
		func(p *api.Plan) { p.Pi = 0 },
		func(p *api.Plan) { p.Window-- },
		func(p *api.Plan) { p.Cap = 0 },
		func(p *api.Plan) { p.SendOff-- },
		func(p *api.Plan) { p.Slot-- },
		func(p *api.Plan) { p.Payload = 0 },
		func(p *api.Plan) { p.Delta-- },
		func(p *api.Plan) { p.Horizon-- },
	} {
		p := four
		turn(&p)
		all = append(all, p)
	}
	return all
}

// far are numbers out of all bounds of places.
var far = []int64{
	math.MinInt64, math.MinInt64 + 1, -1 << 62, -1 << 33, -1<<32 + 1, -1 << 32, -1 << 31, -16, -2, -1,
	1<<31 + 1, 1 << 32, 1<<32 + 1, 1 << 33, 1 << 40, 1 << 60, 1 << 62, math.MaxInt64 - 1, math.MaxInt64,
}

// noReadings are numbers that no reading is.
var noReadings = []int64{
	math.MinInt64, math.MinInt64 + 1, -1 << 62, -1 << 60, -1 << 33, -mostTime - 2, -mostTime - 1,
	greatest + 1, greatest + 2, 1<<60 + 250, 1 << 61, 1 << 62, math.MaxInt64 - 1, math.MaxInt64,
}

func place(round int64, slot int) api.Place { return api.Place{Round: round, Slot: slot} }

// ownPlaces are places of a plan: the first ones, the last ones, and some.
func ownPlaces(r *rand.Rand, p api.Plan) []api.Place {
	var all []api.Place
	for _, round := range []int64{0, 1, 2, 1 << 30, lastRound - 1, lastRound, r.Int63n(1 << 31), r.Int63n(1 << 12)} {
		for slot := range p.Nodes {
			all = append(all, place(round, slot))
		}
	}
	return all
}

// otherPlaces are places that a plan does not have.
func otherPlaces(p api.Plan) []api.Place {
	all := []api.Place{place(-1, -1), place(lastRound+1, p.Nodes), place(-1, p.Nodes), place(lastRound+1, -1)}
	for _, slot := range []int{0, 1, p.Nodes - 1} {
		all = append(all, place(-1, slot), place(lastRound+1, slot))
		for _, n := range far {
			all = append(all, place(n, slot))
		}
	}
	for _, round := range []int64{0, 1, lastRound} {
		all = append(all, place(round, -1), place(round, p.Nodes), place(round, p.Nodes+1))
		for _, n := range far {
			all = append(all, place(round, int(n)))
		}
	}
	return all
}

// edges are readings at which something changes at a place, and such as are
// the least and the greatest that may be.
func edges(p api.Plan, at api.Place) []int64 {
	begin, mid := beginOf(p, at).Int64(), expectedOf(p, at).Int64()
	all := []int64{-mostTime, 1 - mostTime, -1, 0, 1, greatest - 1, greatest}
	for _, about := range []int64{begin, mid - p.Window, mid, mid + p.Window, begin + p.Slot} {
		all = append(all, about-1, about, about+1)
	}
	return all
}

// judges wants what is said of a reading, from the function and from the words.
func judges(t *testing.T, p api.Plan, at api.Place, reading int64, want sight) {
	t.Helper()
	verdict, deviation, err := window.Judge(p, at, reading)
	if got := (sight{verdict, deviation, err}); got != want {
		t.Errorf("Judge of %d at %v in %+v: %+v, want %+v", reading, at, p, got, want)
	}
	if told := seenBy(p, at, reading); told != want {
		t.Errorf("%d at %v in %+v, by the words: %+v, want %+v", reading, at, p, told, want)
	}
}

// judgesByTheWords wants what the words say of a reading.
func judgesByTheWords(t *testing.T, p api.Plan, at api.Place, reading int64) {
	t.Helper()
	judges(t, p, at, reading, seenBy(p, at, reading))
}

// places wants a reading's place, from the function and from the words.
func places(t *testing.T, p api.Plan, reading int64, want spot) {
	t.Helper()
	at, is := window.Place(p, reading)
	if got := (spot{at, is}); got != want {
		t.Errorf("Place of %d in %+v: %+v, want %+v", reading, p, got, want)
	}
	if told := spotOf(p, reading); told != want {
		t.Errorf("the place of %d in %+v, by the words: %+v, want %+v", reading, p, told, want)
	}
}

// keeps wants what is kept of readings, from the function and from the words,
// and that they stay as they are.
func keeps(t *testing.T, p api.Plan, at api.Place, readings []int64, want []int64) {
	t.Helper()
	before := slices.Clone(readings)
	err, kept := window.Keep(p, at, readings...)
	if err != api.OK || !slices.Equal(kept, want) {
		t.Errorf("Keep of %v at %v in %+v: error %d, %v; want %v", readings, at, p, err, kept, want)
	}
	if !slices.Equal(readings, before) {
		t.Errorf("what was handed in is %v, and was %v", readings, before)
	}
	if err, told := keptOf(p, at, readings); err != api.OK || !slices.Equal(told, want) {
		t.Errorf("what is kept of %v at %v in %+v, by the words: error %d, %v; want %v", readings, at, p, err, told, want)
	}
}

// keepsNothing wants ErrWindow, and nothing else.
func keepsNothing(t *testing.T, p api.Plan, at api.Place, readings []int64) {
	t.Helper()
	before := slices.Clone(readings)
	err, kept := window.Keep(p, at, readings...)
	if err != api.ErrWindow || kept != nil {
		t.Errorf("Keep of %v at %v in %+v: error %d, %v; want ErrWindow", readings, at, p, err, kept)
	}
	if !slices.Equal(readings, before) {
		t.Errorf("what was handed in is %v, and was %v", readings, before)
	}
	if err, _ := keptOf(p, at, readings); err != api.ErrWindow {
		t.Errorf("what is kept of %v at %v in %+v, by the words: error %d", readings, at, p, err)
	}
}

// The limits and the plans of the tests are what they are said to be.

func TestLimits(t *testing.T) {
	if api.OK != 0 || api.ErrWindow != 160 {
		t.Error("other errors than the document's")
	}
	if api.TimeEarly != 1 || api.TimeIn != 2 || api.TimeLate != 3 {
		t.Error("other verdicts than the document's")
	}
	if api.MaxTime != mostTime || api.MaxRound != lastRound || greatest != 1<<60 {
		t.Error("other limits than the document's")
	}
}

func TestPlans(t *testing.T) {
	for _, p := range plans() {
		if n := plan.Fails(p); n != 0 {
			t.Errorf("%+v fails %d", p, n)
		}
	}
	for n, p := range broken() {
		if first := plan.Fails(p); first != max(n, 1) {
			t.Errorf("%+v fails %d, want %d", p, first, max(n, 1))
		}
	}
}

// The chapter's examples, and the sixth one of the whole.

func TestExamples(t *testing.T) {
	least, err := plan.Fit(four)
	if least != four || err != api.OK {
		t.Fatalf("the least plan of four nodes is %+v", least)
	}
	at := place(0, 0)
	judges(t, four, at, 250, sight{2, 0, api.OK})
	judges(t, four, at, 153, sight{1, -97, api.OK})
	judges(t, four, at, 347, sight{3, 97, api.OK})
	judges(t, four, at, 346, sight{2, 96, api.OK})
	judges(t, four, at, 154, sight{2, -96, api.OK})
	places(t, four, 300, spot{at, true})
	places(t, four, 400, spot{})
	places(t, four, 762, spot{place(0, 1), true})
}

// P16.1: Judge

func TestJudge(t *testing.T) {
	for _, one := range []struct {
		p       api.Plan
		at      api.Place
		reading int64
		want    sight
	}{
		{four, place(0, 0), 249, sight{2, -1, api.OK}},
		{four, place(0, 0), 251, sight{2, 1, api.OK}},
		{four, place(0, 0), 0, sight{1, -250, api.OK}},
		{four, place(0, 0), -1, sight{1, -251, api.OK}},
		{four, place(0, 0), 511, sight{3, 261, api.OK}},
		{four, place(0, 0), 762, sight{3, 512, api.OK}},
		{four, place(0, 1), 250, sight{1, -512, api.OK}},
		{four, place(1, 2), 3225, sight{1, -97, api.OK}},
		{four, place(1, 2), 3226, sight{2, -96, api.OK}},
		{four, place(1, 2), 3322, sight{2, 0, api.OK}},
		{four, place(1, 2), 3418, sight{2, 96, api.OK}},
		{four, place(1, 2), 3419, sight{3, 97, api.OK}},
		{five, place(0, 0), 461, sight{1, -251, api.OK}},
		{five, place(0, 0), 462, sight{2, -250, api.OK}},
		{five, place(0, 0), 712, sight{2, 0, api.OK}},
		{five, place(0, 0), 962, sight{2, 250, api.OK}},
		{five, place(0, 0), 963, sight{3, 251, api.OK}},
		{five, place(0, 1), 4811, sight{2, 0, api.OK}},
		{longSixteen, place(lastRound, 15), 1<<55 - 1<<20 + 1047307, sight{2, 0, api.OK}},
		{longSixteen, place(lastRound, 15), 1<<55 - 1<<20 + 1047307 + 474, sight{2, 474, api.OK}},
		{longSixteen, place(lastRound, 15), 1<<55 - 1<<20 + 1047307 + 475, sight{3, 475, api.OK}},
		{longFour, place(lastRound, 3), (lastRound*4+3)<<20 + 524282 - 187, sight{1, -187, api.OK}},
		{longFour, place(lastRound, 3), (lastRound*4+3)<<20 + 524282 - 186, sight{2, -186, api.OK}},
	} {
		judges(t, one.p, one.at, one.reading, one.want)
	}
}

func TestJudgeTheLeastAndTheGreatestReading(t *testing.T) {
	judges(t, four, place(0, 0), -mostTime, sight{1, -mostTime - 250, api.OK})
	judges(t, four, place(0, 0), greatest, sight{3, greatest - 250, api.OK})
	judges(t, four, place(0, 3), greatest, sight{3, greatest - 250 - 1536, api.OK})
	last := int64(1<<55 - 1<<20 + 1047307)
	judges(t, longSixteen, place(lastRound, 15), -mostTime, sight{1, -mostTime - last, api.OK})
	judges(t, longSixteen, place(lastRound, 15), 0, sight{1, -last, api.OK})
	judges(t, longSixteen, place(lastRound, 15), greatest, sight{3, greatest - last, api.OK})
}

// TestJudgeEachTick goes through all ticks of two rounds, and some about them.
func TestJudgeEachTick(t *testing.T) {
	for _, at := range []api.Place{place(0, 0), place(0, 1), place(0, 3), place(1, 0), place(1, 3)} {
		for reading := int64(-300); reading < 4500; reading++ {
			judgesByTheWords(t, four, at, reading)
		}
	}
}

func TestJudgeAtEdges(t *testing.T) {
	r := rand.New(rand.NewSource(161))
	for _, p := range append(plans(), somePlans(r, 20)...) {
		for _, at := range ownPlaces(r, p) {
			mid := expectedOf(p, at).Int64()
			judges(t, p, at, mid, sight{2, 0, api.OK})
			judges(t, p, at, mid-p.Window, sight{2, -p.Window, api.OK})
			judges(t, p, at, mid+p.Window, sight{2, p.Window, api.OK})
			judges(t, p, at, mid-p.Window-1, sight{1, -p.Window - 1, api.OK})
			judges(t, p, at, mid+p.Window+1, sight{3, p.Window + 1, api.OK})
			for _, reading := range edges(p, at) {
				judgesByTheWords(t, p, at, reading)
			}
		}
	}
}

// TestJudgeByThePlansWindow has windows that are wider than they have to be,
// and delays whose middle one is rounded down.
func TestJudgeByThePlansWindow(t *testing.T) {
	for wider := range int64(40) {
		p := five
		p.Window, p.SendOff, p.Dmin = 300+wider, 800, 5+wider%16
		if plan.Check(p) != api.OK {
			t.Fatalf("%+v fails %d", p, plan.Fails(p))
		}
		at := place(7, 3)
		for off := int64(-345); off <= 345; off++ {
			judgesByTheWords(t, p, at, expectedOf(p, at).Int64()+off)
		}
	}
}

func TestJudgeAnyReadings(t *testing.T) {
	r := rand.New(rand.NewSource(162))
	any64 := func() int64 { return int64(r.Uint64()) >> r.Intn(64) }
	for range 5000 {
		p := plans()[r.Intn(4)]
		judgesByTheWords(t, p, place(r.Int63n(lastRound+1), r.Intn(p.Nodes)), any64())
		judgesByTheWords(t, p, place(any64(), int(any64())), any64())
	}
}

func TestJudgeAtOtherPlaces(t *testing.T) {
	for _, p := range plans() {
		for _, at := range otherPlaces(p) {
			for _, reading := range []int64{-mostTime, -1, 0, 250, 300, 762, 1 << 31, 1 << 55, greatest, greatest + 1, math.MinInt64} {
				judges(t, p, at, reading, sight{err: api.ErrWindow})
			}
		}
	}
}

func TestJudgeOfNoReadings(t *testing.T) {
	r := rand.New(rand.NewSource(163))
	for _, p := range plans() {
		for _, at := range ownPlaces(r, p) {
			for _, reading := range noReadings {
				judges(t, p, at, reading, sight{err: api.ErrWindow})
			}
		}
	}
}

// P16.1, P16.2: plans that may not be

func refuses(t *testing.T, p api.Plan) {
	t.Helper()
	for _, reading := range append([]int64{-mostTime, 0, 153, 154, 250, 300, 346, 347, 762, 3322, greatest}, noReadings...) {
		places(t, p, reading, spot{})
		for _, at := range []api.Place{place(0, 0), place(1, 2), place(lastRound, 3), place(-1, 0), place(0, -1)} {
			judges(t, p, at, reading, sight{err: api.ErrWindow})
			keepsNothing(t, p, at, []int64{reading})
			keepsNothing(t, p, at, nil)
		}
	}
}

func TestPlansThatMayNotBe(t *testing.T) {
	for _, p := range broken() {
		refuses(t, p)
	}
	for _, n := range []int64{math.MinInt64, -1 << 32, -1, 1<<20 + 1, 1 << 32, 1 << 60, math.MaxInt64} {
		for _, turn := range []func(p *api.Plan){
			func(p *api.Plan) { p.Nodes = int(n) },
			func(p *api.Plan) { p.Slot = n },
			func(p *api.Plan) { p.SendOff = n },
			func(p *api.Plan) { p.Window = n },
			func(p *api.Plan) { p.Dmin = n },
			func(p *api.Plan) { p.Dmax = n },
		} {
			p := four
			turn(&p)
			refuses(t, p)
		}
	}
}

// P16.2: Place

func TestPlaceAtEdges(t *testing.T) {
	for _, p := range plans() {
		for _, at := range []api.Place{place(0, 0), place(0, 1), place(0, p.Nodes-1), place(1, 0), place(7, 2), place(lastRound-1, 0), place(lastRound-1, p.Nodes-1)} {
			begin, mid := beginOf(p, at).Int64(), expectedOf(p, at).Int64()
			for _, inside := range []int64{mid - p.Window, mid - p.Window + 1, mid - 1, mid, mid + 1, mid + p.Window - 1, mid + p.Window} {
				places(t, p, inside, spot{at, true})
			}
			for _, outside := range []int64{begin - 1, begin, begin + 1, mid - p.Window - 1, mid + p.Window + 1, begin + p.Slot - 1, begin + p.Slot} {
				places(t, p, outside, spot{})
			}
		}
	}
}

// TestPlaceOfEachTick goes through all ticks of some rounds.
func TestPlaceOfEachTick(t *testing.T) {
	for reading := int64(-3000); reading < 5*2048; reading++ {
		places(t, four, reading, spotOf(four, reading))
	}
	for reading := int64(-300); reading < 2*5*4099; reading++ {
		places(t, five, reading, spotOf(five, reading))
	}
}

func TestPlaceBelowNought(t *testing.T) {
	for _, p := range plans() {
		mid := expectedOf(p, place(0, 0)).Int64()
		for _, reading := range []int64{-1, -2, -250, -300, -762, mid - p.Slot, mid - plan.Round(p), -mid, -mostTime, -mostTime - 1, math.MinInt64} {
			places(t, p, reading, spot{})
		}
	}
}

// TestPlaceBehindTheLast has readings of the last round: in none of its slots
// a time lies that has a place (9, Of), but for its first tick.
func TestPlaceBehindTheLast(t *testing.T) {
	for _, p := range plans() {
		begin := beginOf(p, place(lastRound, 0)).Int64()
		places(t, p, begin-1, spot{})
		places(t, p, begin, spot{})
		places(t, p, begin+1, spot{})
		for slot := range p.Nodes {
			mid := expectedOf(p, place(lastRound, slot)).Int64()
			judges(t, p, place(lastRound, slot), mid, sight{2, 0, api.OK})
			places(t, p, mid, spot{})
			places(t, p, mid-p.Window, spot{})
			places(t, p, mid+p.Window, spot{})
		}
		for _, beyond := range []int64{begin + plan.Round(p), expectedOf(p, place(lastRound, p.Nodes-1)).Int64() + p.Slot, greatest, greatest + 1, math.MaxInt64} {
			places(t, p, beyond, spot{})
		}
	}
}

func TestPlaceOfAnyReadings(t *testing.T) {
	r := rand.New(rand.NewSource(164))
	any64 := func() int64 { return int64(r.Uint64()) >> r.Intn(64) }
	for _, p := range append(plans(), somePlans(r, 20)...) {
		last := lastRound * plan.Round(p)
		for range 500 {
			for _, reading := range []int64{any64(), r.Int63n(last + 1), r.Int63n(3 * plan.Round(p)), last + r.Int63n(4*plan.Round(p)) - 2*plan.Round(p)} {
				places(t, p, reading, spotOf(p, reading))
			}
		}
		for _, reading := range noReadings {
			places(t, p, reading, spot{})
		}
	}
}

// P16.2: Keep

func TestKeep(t *testing.T) {
	at := place(0, 0)
	for _, one := range []struct{ readings, want []int64 }{
		{nil, nil},
		{[]int64{}, nil},
		{[]int64{250}, []int64{0}},
		{[]int64{251}, []int64{1}},
		{[]int64{154}, []int64{-96}},
		{[]int64{346}, []int64{96}},
		{[]int64{153}, nil},
		{[]int64{347}, nil},
		{[]int64{153, 347, 0, 762, -mostTime, greatest}, nil},
		{[]int64{250, 251, 249, 346, 154}, []int64{0, 1, -1, 96, -96}},
		{[]int64{346, 250, 154}, []int64{96, 0, -96}},
		{[]int64{154, 250, 346}, []int64{-96, 0, 96}},
		{[]int64{250, 250, 250}, []int64{0, 0, 0}},
		{[]int64{153, 154, 250, 346, 347}, []int64{-96, 0, 96}},
		{[]int64{347, 346, 153, 250, 0, 154}, []int64{96, 0, -96}},
		{[]int64{0, 300, greatest, 200, -mostTime}, []int64{50, -50}},
		{[]int64{300, 0, greatest}, []int64{50}},
		{[]int64{0, greatest, 300}, []int64{50}},
	} {
		keeps(t, four, at, one.readings, one.want)
	}
	keeps(t, four, place(0, 1), []int64{762, 250, 763}, []int64{0, 1})
	keeps(t, four, place(1, 2), []int64{3419, 3418, 3225, 3226, 250}, []int64{96, -96})
}

func TestKeepSaidOneByOne(t *testing.T) {
	err, kept := window.Keep(four, place(0, 0))
	if err != api.OK || len(kept) != 0 {
		t.Errorf("Keep of none: error %d, %v", err, kept)
	}
	err, kept = window.Keep(four, place(0, 0), 260, 400, 240)
	if err != api.OK || !slices.Equal(kept, []int64{10, -10}) {
		t.Errorf("Keep of 260, 400 and 240: error %d, %v", err, kept)
	}
}

// TestKeepInEachOrder has readings, in time and not, in all orders.
func TestKeepInEachOrder(t *testing.T) {
	mid := expectedOf(five, place(3, 4)).Int64()
	all := []int64{mid, mid + 250, mid - 251, mid - 250, mid + 251, mid + 7}
	var grow func(chosen, left []int64)
	grow = func(chosen, left []int64) {
		_, want := keptOf(five, place(3, 4), chosen)
		keeps(t, five, place(3, 4), chosen, want)
		for n := range left {
			grow(append(slices.Clone(chosen), left[n]), slices.Delete(slices.Clone(left), n, n+1))
		}
	}
	grow(nil, all)
}

func TestKeepAnyReadings(t *testing.T) {
	r := rand.New(rand.NewSource(165))
	for _, p := range append(plans(), somePlans(r, 10)...) {
		for _, at := range ownPlaces(r, p) {
			about := edges(p, at)
			readings := make([]int64, r.Intn(30))
			for n := range readings {
				readings[n] = about[r.Intn(len(about))]
				if r.Intn(2) == 0 {
					readings[n] = expectedOf(p, at).Int64() + r.Int63n(4*p.Window) - 2*p.Window
				}
			}
			_, want := keptOf(p, at, readings)
			keeps(t, p, at, readings, want)
		}
	}
}

// TestKeepIsJudgeOfEach has Keep and Judge say the same.
func TestKeepIsJudgeOfEach(t *testing.T) {
	r := rand.New(rand.NewSource(166))
	for _, p := range plans() {
		at := place(r.Int63n(1<<31), r.Intn(p.Nodes))
		var want []int64
		readings := edges(p, at)
		for _, reading := range readings {
			if verdict, deviation, err := window.Judge(p, at, reading); verdict == api.TimeIn && err == api.OK {
				want = append(want, deviation)
			}
		}
		if len(want) == 0 {
			t.Errorf("nothing of %v is in time at %v in %+v", readings, at, p)
		}
		keeps(t, p, at, readings, want)
	}
}

func TestKeepAtOtherPlaces(t *testing.T) {
	for _, p := range plans() {
		for _, at := range otherPlaces(p) {
			for _, readings := range [][]int64{nil, {}, {0}, {250}, {-mostTime, 250, greatest}, {greatest + 1}} {
				keepsNothing(t, p, at, readings)
			}
		}
	}
}

// TestKeepOfNoReadings has what is no reading at each place among others, in
// time or not.
func TestKeepOfNoReadings(t *testing.T) {
	for _, p := range plans() {
		for _, at := range []api.Place{place(0, 0), place(5, 1), place(lastRound, p.Nodes-1)} {
			mid := expectedOf(p, at).Int64()
			for _, wrong := range noReadings {
				for _, other := range []int64{mid, mid - p.Window, mid + p.Window + 1, -mostTime, greatest} {
					for many := 1; many <= 5; many++ {
						for n := range many {
							readings := slices.Repeat([]int64{other}, many)
							readings[n] = wrong
							keepsNothing(t, p, at, readings)
						}
					}
				}
				keepsNothing(t, p, at, []int64{wrong, wrong})
			}
		}
	}
}

func TestKeepMany(t *testing.T) {
	const many = 100000
	readings := make([]int64, many)
	var want []int64
	for n := range readings {
		readings[n] = int64(n%700) - 50
		if off := readings[n] - 250; off >= -96 && off <= 96 {
			want = append(want, off)
		}
	}
	keeps(t, four, place(0, 0), readings, want)
	readings[many-1] = greatest + 1
	keepsNothing(t, four, place(0, 0), readings)
}

// P16.2: Sign

func TestSign(t *testing.T) {
	for _, one := range []struct {
		deviation int64
		want      int
	}{
		{0, 0}, {1, 1}, {-1, -1}, {2, 1}, {-2, -1}, {96, 1}, {-96, -1}, {1 << 31, 1}, {-1 << 31, -1}, {1 << 32, 1}, {-1 << 32, -1},
		{1 << 60, 1}, {-1 << 60, -1}, {math.MaxInt64, 1}, {math.MinInt64, -1}, {math.MaxInt64 - 1, 1}, {math.MinInt64 + 1, -1},
	} {
		if got := window.Sign(one.deviation); got != one.want {
			t.Errorf("Sign of %d: %d, want %d", one.deviation, got, one.want)
		}
	}
	for bit := range 63 {
		if window.Sign(1<<bit) != 1 || window.Sign(-1<<bit) != -1 {
			t.Errorf("Sign of 2 to the %d, or of that below 0", bit)
		}
	}
}

// P16.3

// TestOnlyRead has lists that are parts of a greater one: what lies behind
// them stays as it is, too.
func TestOnlyRead(t *testing.T) {
	all := []int64{347, 250, -mostTime, 346, 154, greatest, 200, 153, 300, math.MaxInt64, 251}
	before := slices.Clone(all)
	for from := range len(all) {
		for to := from; to <= len(all); to++ {
			err, kept := window.Keep(four, place(0, 0), all[from:to]...)
			wantErr, want := keptOf(four, place(0, 0), all[from:to])
			if err != wantErr || !slices.Equal(kept, want) {
				t.Fatalf("Keep of %v: error %d, %v; want error %d, %v", all[from:to], err, kept, wantErr, want)
			}
			if !slices.Equal(all, before) {
				t.Fatalf("Keep of %v: all are %v, and were %v", before[from:to], all, before)
			}
		}
	}
}

// TestNewMemory writes to what was answered, all of it, and behind it.
func TestNewMemory(t *testing.T) {
	for _, readings := range [][]int64{{250, 251, 346}, {250}, {250, 400, 154, 0, 300}, {0, 1, 2}, slices.Repeat([]int64{260}, 100)} {
		before := slices.Clone(readings)
		_, want := keptOf(four, place(0, 0), readings)
		err, first := window.Keep(four, place(0, 0), readings...)
		again, second := window.Keep(four, place(0, 0), readings...)
		if err != api.OK || again != api.OK {
			t.Fatalf("Keep of %v: errors %d and %d", readings, err, again)
		}
		first = first[:cap(first)]
		for n := range first {
			first[n] = -7
		}
		if !slices.Equal(second, want) || !slices.Equal(readings, before) {
			t.Errorf("what was answered is not by itself: %v, want %v; readings %v, were %v", second, want, readings, before)
		}
		keeps(t, four, place(0, 0), readings, want)
	}
}

// TestNotKept changes what was handed in: neither what was answered changes by
// that, nor what is answered then.
func TestNotKept(t *testing.T) {
	readings := []int64{250, 400, 346}
	for range 3 {
		readings[0], readings[1], readings[2] = 250, 400, 346
		err, kept := window.Keep(four, place(0, 0), readings...)
		readings[0], readings[1], readings[2] = 400, 154, 1
		if err != api.OK || !slices.Equal(kept, []int64{0, 96}) {
			t.Errorf("Keep: error %d, %v", err, kept)
		}
		keeps(t, four, place(0, 0), readings, []int64{-96})
		readings[1] = greatest + 1
		keepsNothing(t, four, place(0, 0), readings)
		judges(t, four, place(0, 0), 250, sight{2, 0, api.OK})
		judges(t, four, place(0, 0), greatest+1, sight{err: api.ErrWindow})
		places(t, four, 762, spot{place(0, 1), true})
		places(t, four, 400, spot{})
	}
}

// P16.4

// inTimeAt are the places, out of some, at which a reading is in time.
func inTimeAt(t *testing.T, p api.Plan, all []api.Place, reading int64) []api.Place {
	t.Helper()
	var in []api.Place
	for _, at := range all {
		verdict, _, err := window.Judge(p, at, reading)
		if err != api.OK {
			t.Fatalf("Judge of %d at %v in %+v: error %d", reading, at, p, err)
		}
		if verdict == api.TimeIn {
			in = append(in, at)
		}
	}
	return in
}

// wantOwnAlone wants that a reading is in time at its own place alone.
func wantOwnAlone(t *testing.T, p api.Plan, all []api.Place, reading int64) {
	t.Helper()
	in := inTimeAt(t, p, all, reading)
	at, is := window.Place(p, reading)
	if is && (len(in) != 1 || in[0] != at) || !is && len(in) != 0 {
		t.Errorf("%d in %+v is in time at %v; its place: %v, %t", reading, p, in, at, is)
	}
}

func TestInTimeAtItsOwnPlaceAlone(t *testing.T) {
	for _, p := range []api.Plan{four, five} {
		var all []api.Place
		for round := range int64(4) {
			for slot := range p.Nodes {
				all = append(all, place(round, slot))
			}
		}
		for reading := -2 * p.Slot; reading < 4*plan.Round(p); reading++ {
			wantOwnAlone(t, p, all, reading)
		}
	}
}

func TestInTimeAtItsOwnPlaceAloneFarOut(t *testing.T) {
	r := rand.New(rand.NewSource(167))
	for _, p := range append(plans(), somePlans(r, 20)...) {
		all := ownPlaces(r, p)
		slices.SortFunc(all, func(a, b api.Place) int { return beginOf(p, a).Cmp(beginOf(p, b)) })
		all = slices.Compact(all)
		for _, at := range all {
			for _, reading := range edges(p, at) {
				if at.Round < lastRound {
					wantOwnAlone(t, p, all, reading)
				} else if in := inTimeAt(t, p, all, reading); len(in) > 1 {
					t.Errorf("%d in %+v is in time at %v", reading, p, in)
				}
			}
		}
	}
}

// sent wants that what a clock that is apart by so much sends in its slot, and
// takes such a delay, is in time, and off by both.
func sent(t *testing.T, p api.Plan, at api.Place, apart, delay int64) {
	t.Helper()
	sends, err := table.Sends(p, at)
	if err != api.OK {
		t.Fatalf("Sends at %v in %+v: error %d", at, p, err)
	}
	reading := sends + apart + delay
	off := apart + delay - table.Middle(p)
	judges(t, p, at, reading, sight{2, off, api.OK})
	keeps(t, p, at, []int64{reading}, []int64{off})
	if at.Round < lastRound {
		places(t, p, reading, spot{at, true})
	}
}

func TestSentInItsSlot(t *testing.T) {
	r := rand.New(rand.NewSource(168))
	for _, p := range append(plans(), somePlans(r, 30)...) {
		for _, at := range ownPlaces(r, p) {
			for _, apart := range []int64{0, 1, -1, p.Pi - 1, 1 - p.Pi, p.Pi, -p.Pi, r.Int63n(2*p.Pi+1) - p.Pi} {
				for _, delay := range []int64{p.Dmin, table.Middle(p), p.Dmax, p.Dmin + r.Int63n(p.Dmax-p.Dmin+1)} {
					sent(t, p, at, apart, delay)
				}
			}
		}
	}
}

// TestSentByEachClock has all clocks that may be, and all delays.
func TestSentByEachClock(t *testing.T) {
	for _, p := range []api.Plan{four, five} {
		for apart := -p.Pi; apart <= p.Pi; apart++ {
			for delay := p.Dmin; delay <= p.Dmax; delay++ {
				sent(t, p, place(2, 1), apart, delay)
			}
		}
	}
}

// TestSignsOfClocks has who is ahead, and who is behind, when delays are the
// middle one.
func TestSignsOfClocks(t *testing.T) {
	for _, p := range plans() {
		sends, _ := table.Sends(p, place(3, 0))
		for apart := -p.Pi; apart <= p.Pi; apart++ {
			_, off, err := window.Judge(p, place(3, 0), sends+apart+table.Middle(p))
			want := 0
			if apart < 0 {
				want = -1
			}
			if apart > 0 {
				want = 1
			}
			if sign := window.Sign(off); sign != want || err != api.OK {
				t.Errorf("apart by %d in %+v: sign %d, error %d", apart, p, sign, err)
			}
		}
	}
}
