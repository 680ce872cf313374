package table_test

import (
	"math"
	"math/rand"
	"testing"

	"vespers/api"
	"vespers/plan"
	"vespers/table"
)

// four is the least plan of the chapter's examples.
var four = api.Plan{
	Nodes: 4, K: 1, Slot: 512, SendOff: 248, Window: 96, Air: 1, Dmin: 1, Dmax: 3, Rho: 100000, Pi: 88, Cap: 64,
	Delta: 10416, Queue: 2, Burst: 1, Payload: 8, Horizon: 81920,
}

// five has an odd number of nodes, and delays whose half is 12 and a half.
var five = api.Plan{
	Nodes: 5, K: 1, Slot: 4099, SendOff: 700, Window: 250, Air: 10, Dmin: 5, Dmax: 20, Rho: 100000, Pi: 200, Cap: 150,
	Delta: 400000, Queue: 5, Burst: 2, Payload: 8, Horizon: 3000000,
}

// longFour has the longest slots that there are, and the longest delays that
// go into them.
var longFour = api.Plan{
	Nodes: 4, K: 1, Slot: api.MaxSlot, SendOff: 489, Window: 186, Air: 1, Dmin: 523793, Dmax: 523794, Rho: api.MaxRho, Pi: 179, Cap: 124,
	Delta: 64 * 4 * api.MaxSlot, Queue: 1, Burst: 1, Payload: 1, Horizon: api.MaxHorizon,
}

// longSixteen has the longest slots, and frames that are sent as late in them
// as can be.
var longSixteen = api.Plan{
	Nodes: 16, K: 7, Slot: api.MaxSlot, SendOff: 1047307, Window: 474, Air: 1, Dmin: 0, Dmax: 1, Rho: api.MaxRho, Pi: 467, Cap: 316,
	Delta: 64 * 16 * api.MaxSlot, Queue: 64, Burst: 8, Payload: 32, Horizon: api.MaxHorizon,
}

func plans() []api.Plan { return []api.Plan{four, five, longFour, longSixteen} }

// somePlans are plans that may be, of any nodes, slots and delays.
func somePlans(r *rand.Rand, many int) []api.Plan {
	var all []api.Plan
	for len(all) < many {
		nodes := 4 + r.Intn(13)
		dmax := r.Int63n(1<<16) >> r.Intn(17)
		p, err := plan.Fit(api.Plan{
			Nodes: nodes, K: r.Intn(nodes / 2),
			Air: 1 + r.Int63n(1<<16)>>r.Intn(17), Dmin: r.Int63n(dmax + 1), Dmax: dmax,
			Rho:   1000 + r.Int63n(api.MaxRho-999),
			Queue: 1 + r.Intn(8), Burst: 1 + r.Intn(api.MaxBurst), Payload: 1 + r.Intn(api.MaxPayload),
		})
		if err == api.OK {
			all = append(all, p)
		}
	}
	return all
}

// broken are plans that may not be: each one's first condition that does not
// hold is that of its place among them; and that of zeros.
func broken() []api.Plan {
	all := []api.Plan{{}}
	for _, turn := range []func(p *api.Plan){
		func(p *api.Plan) { p.K = 2 },
		func(p *api.Plan) { p.Air = 0 },
		func(p *api.Plan) { p.Slot = 0 },
		func(p *api.Plan) { p.Pi = 0 },
		func(p *api.Plan) { p.Window-- },
		func(p *api.Plan) { p.Cap = 0 },
		func(p *api.Plan) { p.SendOff-- },
		func(p *api.Plan) { p.Slot-- },
		func(p *api.Plan) { p.Payload = 0 },
		func(p *api.Plan) { p.Delta-- },
		func(p *api.Plan) { p.Horizon-- },
	} {
		p := four
		turn(&p)
		all = append(all, p)
	}
	return all
}

// far are numbers out of all bounds.
var far = []int64{
	math.MinInt64, math.MinInt64 + 1, -1 << 62, -1 << 33, -1<<32 + 1, -1 << 32, -1 << 31, -16, -2, -1,
	1<<31 + 1, 1 << 32, 1<<32 + 1, 1 << 33, 1 << 40, 1 << 59, 1<<59 + 1, 1 << 60, 1 << 61, 1 << 62, 1<<62 + 1, math.MaxInt64 - 1, math.MaxInt64,
}

func place(round int64, slot int) api.Place { return api.Place{Round: round, Slot: slot} }

// ownPlaces are places of a plan: the first ones, the last ones, and some.
func ownPlaces(r *rand.Rand, p api.Plan) []api.Place {
	var all []api.Place
	for _, round := range []int64{0, 1, 2, 3, 1 << 30, lastRound - 2, lastRound - 1, lastRound, r.Int63n(1 << 31), r.Int63n(1 << 12)} {
		for slot := range p.Nodes {
			all = append(all, place(round, slot))
		}
	}
	return all
}

// otherPlaces are places that are not a plan's own.
func otherPlaces(p api.Plan) []api.Place {
	all := []api.Place{place(-1, -1), place(lastRound+1, p.Nodes), place(-1, p.Nodes), place(lastRound+1, -1)}
	for _, slot := range []int{0, 1, p.Nodes - 1} {
		all = append(all, place(-1, slot), place(lastRound+1, slot))
		for _, n := range far {
			all = append(all, place(n, slot))
		}
	}
	for _, round := range []int64{0, 1, lastRound} {
		all = append(all, place(round, -1), place(round, p.Nodes), place(round, p.Nodes+1))
		for _, n := range far {
			all = append(all, place(round, int(n)))
		}
	}
	return all
}

func wantNumber(t *testing.T, name string, p api.Plan, n int64, err api.Errno, want int64) {
	t.Helper()
	if n != want || err != api.OK {
		t.Errorf("%s of %+v: %d, error %d; want %d", name, p, n, err, want)
	}
}

func wantNoNumber(t *testing.T, name string, p api.Plan, n int64, err api.Errno) {
	t.Helper()
	if n != 0 || err != api.ErrTable {
		t.Errorf("%s of %+v: %d, error %d; want ErrTable", name, p, n, err)
	}
}

func wantBegin(t *testing.T, p api.Plan, at api.Place, want int64) {
	t.Helper()
	n, err := table.Begin(p, at)
	wantNumber(t, "begin", p, n, err, want)
}

func wantSends(t *testing.T, p api.Plan, at api.Place, want int64) {
	t.Helper()
	n, err := table.Sends(p, at)
	wantNumber(t, "sends", p, n, err, want)
}

func wantListen(t *testing.T, p api.Plan, node int, want int64) {
	t.Helper()
	n, err := table.Listen(p, node)
	wantNumber(t, "listen", p, n, err, want)
}

func wantWait(t *testing.T, p api.Plan, node int, want int64) {
	t.Helper()
	n, err := table.Wait(p, node)
	wantNumber(t, "wait", p, n, err, want)
}

func wantApart(t *testing.T, p api.Plan, a, b api.Place, want int64) {
	t.Helper()
	n, err := table.Apart(p, a, b)
	wantNumber(t, "apart", p, n, err, want)
}

func wantOf(t *testing.T, p api.Plan, local int64, want api.Place) {
	t.Helper()
	if at, err := table.Of(p, local); at != want || err != api.OK {
		t.Errorf("of %d in %+v: %v, error %d; want %v", local, p, at, err, want)
	}
}

func wantNoOf(t *testing.T, p api.Plan, local int64) {
	t.Helper()
	if at, err := table.Of(p, local); at != (api.Place{}) || err != api.ErrTable {
		t.Errorf("of %d in %+v: %v, error %d; want ErrTable", local, p, at, err)
	}
}

func wantNext(t *testing.T, p api.Plan, at, want api.Place) {
	t.Helper()
	if next, err := table.Next(p, at); next != want || err != api.OK {
		t.Errorf("next of %v in %+v: %v, error %d; want %v", at, p, next, err, want)
	}
}

func wantNoNext(t *testing.T, p api.Plan, at api.Place) {
	t.Helper()
	if next, err := table.Next(p, at); next != (api.Place{}) || err != api.ErrTable {
		t.Errorf("next of %v in %+v: %v, error %d; want ErrTable", at, p, next, err)
	}
}

func wantFull(t *testing.T, p api.Plan, at api.Place, want bool) {
	t.Helper()
	if full := table.Full(p, at); full != want {
		t.Errorf("full at %v in %+v: %t, want %t", at, p, full, want)
	}
}

func wantExpected(t *testing.T, p api.Plan, at api.Place, wantMid, wantOpens, wantCloses int64) {
	t.Helper()
	mid, opens, closes, err := table.Expected(p, at)
	if mid != wantMid || opens != wantOpens || closes != wantCloses || err != api.OK {
		t.Errorf("expected of %v in %+v: %d, %d, %d, error %d; want %d, %d, %d", at, p, mid, opens, closes, err, wantMid, wantOpens, wantCloses)
	}
}

func wantMiddle(t *testing.T, p api.Plan, want int64) {
	t.Helper()
	if n := table.Middle(p); n != want {
		t.Errorf("middle of %+v: %d, want %d", p, n, want)
	}
}

// wantNoPlace wants that nothing is told of a place.
func wantNoPlace(t *testing.T, p api.Plan, at api.Place) {
	t.Helper()
	n, err := table.Begin(p, at)
	wantNoNumber(t, "begin", p, n, err)
	n, err = table.Sends(p, at)
	wantNoNumber(t, "sends", p, n, err)
	wantNoNext(t, p, at)
	wantFull(t, p, at, false)
	if mid, opens, closes, err := table.Expected(p, at); mid != 0 || opens != 0 || closes != 0 || err != api.ErrTable {
		t.Errorf("expected of %v in %+v: %d, %d, %d, error %d; want ErrTable", at, p, mid, opens, closes, err)
	}
}

func wantNoApart(t *testing.T, p api.Plan, a, b api.Place) {
	t.Helper()
	n, err := table.Apart(p, a, b)
	wantNoNumber(t, "apart", p, n, err)
}

// wantNoNode wants that nothing is told of a node.
func wantNoNode(t *testing.T, p api.Plan, node int) {
	t.Helper()
	n, err := table.Listen(p, node)
	wantNoNumber(t, "listen", p, n, err)
	n, err = table.Wait(p, node)
	wantNoNumber(t, "wait", p, n, err)
}

// wantByTheWords wants of a place all that the chapter's words say.
func wantByTheWords(t *testing.T, p api.Plan, at api.Place) {
	t.Helper()
	if !ownPlace(p, at) {
		wantNoPlace(t, p, at)
		wantNoApart(t, p, at, api.Place{})
		wantNoApart(t, p, api.Place{}, at)
		return
	}
	wantBegin(t, p, at, beginOf(p, at).Int64())
	sent, mid, opens, closes := expectedOf(p, at)
	wantSends(t, p, at, sent.Int64())
	wantExpected(t, p, at, mid.Int64(), opens.Int64(), closes.Int64())
	wantFull(t, p, at, fullAt(at))
	if next, is := nextOf(p, at); is {
		wantNext(t, p, at, next)
	} else {
		wantNoNext(t, p, at)
	}
}

// wantTime wants of a time the place that the chapter's words say, or none.
func wantTime(t *testing.T, p api.Plan, local int64) {
	t.Helper()
	if ownTime(p, local) {
		wantOf(t, p, local, placeOf(p, local))
	} else {
		wantNoOf(t, p, local)
	}
}

// wantNode wants of a node the times that the chapter's words say, or none.
func wantNode(t *testing.T, p api.Plan, node int) {
	t.Helper()
	if !ownNode(p, node) {
		wantNoNode(t, p, node)
		return
	}
	wantListen(t, p, node, silentOf(p, 3, node).Int64())
	wantWait(t, p, node, silentOf(p, 1, node).Int64())
}

// The plans of the tests are what they are said to be.

func TestPlans(t *testing.T) {
	for _, p := range plans() {
		if n := plan.Fails(p); n != 0 {
			t.Errorf("%+v fails %d", p, n)
		}
	}
	for n, p := range broken() {
		if first := plan.Fails(p); first != max(n, 1) {
			t.Errorf("%+v fails %d, want %d", p, first, max(n, 1))
		}
	}
	// Longer delays, and frames that are sent later, there are not.
	later := longSixteen
	later.SendOff++
	slower := longFour
	slower.Dmin++
	slower.Dmax++
	for _, p := range []api.Plan{later, slower} {
		if first := plan.Fails(p); first != 8 {
			t.Errorf("%+v fails %d, want 8", p, first)
		}
	}
}

// The chapter's examples, and the sixth one of the whole.

func TestExamples(t *testing.T) {
	wantBegin(t, four, place(1, 2), 3072)
	wantOf(t, four, 3072, place(1, 2))
	wantOf(t, four, 3071, place(1, 1))
	wantExpected(t, four, place(0, 0), 250, 154, 346)
	wantListen(t, four, 3, 7680)
	wantWait(t, four, 3, 3584)
}

// P9.1

func TestBegins(t *testing.T) {
	wantBegin(t, four, place(0, 0), 0)
	wantBegin(t, four, place(0, 1), 512)
	wantBegin(t, four, place(0, 3), 1536)
	wantBegin(t, four, place(1, 0), 2048)
	wantBegin(t, four, place(1, 3), 3584)
	wantBegin(t, four, place(lastRound, 0), 2147483647*2048)
	wantBegin(t, four, place(lastRound, 3), 2147483647*2048+1536)
	wantBegin(t, five, place(3, 4), 19*4099)
	wantBegin(t, longFour, place(lastRound, 3), (2147483647*4+3)<<20)
	wantBegin(t, longSixteen, place(lastRound, 0), 2147483647<<24)
	wantBegin(t, longSixteen, place(lastRound, 15), 1<<55-1<<20)
}

func TestPlacesOfTimes(t *testing.T) {
	wantOf(t, four, 0, place(0, 0))
	wantOf(t, four, 1, place(0, 0))
	wantOf(t, four, 511, place(0, 0))
	wantOf(t, four, 512, place(0, 1))
	wantOf(t, four, 1023, place(0, 1))
	wantOf(t, four, 1536, place(0, 3))
	wantOf(t, four, 2047, place(0, 3))
	wantOf(t, four, 2048, place(1, 0))
	wantNoOf(t, four, -1)
	wantNoOf(t, four, -512)
}

func TestTheLastTimesThatHaveAPlace(t *testing.T) {
	for _, p := range plans() {
		last := lastRound * plan.Round(p)
		wantOf(t, p, last, place(lastRound, 0))
		wantOf(t, p, last-1, place(lastRound-1, p.Nodes-1))
		wantOf(t, p, last-p.Slot, place(lastRound-1, p.Nodes-1))
		wantOf(t, p, last-p.Slot-1, place(lastRound-1, p.Nodes-2))
		wantNoOf(t, p, last+1)
		wantNoOf(t, p, last+p.Slot)
		wantNoOf(t, p, last+plan.Round(p))
	}
}

func TestTimesThatAreFarOff(t *testing.T) {
	for _, p := range plans() {
		for _, n := range far {
			wantTime(t, p, n)
		}
		wantNoOf(t, p, math.MaxInt64)
		wantNoOf(t, p, math.MinInt64)
	}
}

func TestNext(t *testing.T) {
	wantNext(t, four, place(0, 0), place(0, 1))
	wantNext(t, four, place(0, 2), place(0, 3))
	wantNext(t, four, place(0, 3), place(1, 0))
	wantNext(t, four, place(7, 3), place(8, 0))
	wantNext(t, five, place(7, 3), place(7, 4))
	wantNext(t, five, place(7, 4), place(8, 0))
	for _, p := range plans() {
		wantNext(t, p, place(lastRound-1, p.Nodes-1), place(lastRound, 0))
		wantNext(t, p, place(lastRound, p.Nodes-2), place(lastRound, p.Nodes-1))
		wantNoNext(t, p, place(lastRound, p.Nodes-1))
	}
}

func TestApart(t *testing.T) {
	wantApart(t, four, place(0, 0), place(0, 0), 0)
	wantApart(t, four, place(5, 2), place(5, 2), 0)
	wantApart(t, four, place(5, 1), place(5, 3), 2)
	wantApart(t, four, place(5, 3), place(5, 1), -2)
	wantApart(t, four, place(5, 3), place(6, 0), 1)
	wantApart(t, four, place(6, 0), place(5, 3), -1)
	wantApart(t, four, place(5, 0), place(8, 3), 15)
	wantApart(t, four, place(8, 3), place(5, 0), -15)
	wantApart(t, five, place(5, 4), place(8, 1), 12)
	for _, p := range plans() {
		most := int64(p.Nodes)<<31 - 1
		first, last := place(0, 0), place(lastRound, p.Nodes-1)
		wantApart(t, p, first, last, most)
		wantApart(t, p, last, first, -most)
		wantApart(t, p, last, last, 0)
	}
}

func TestAnyPlacesApart(t *testing.T) {
	r := rand.New(rand.NewSource(91))
	for _, p := range append(plans(), somePlans(r, 10)...) {
		all := ownPlaces(r, p)
		for range 200 {
			a, b := all[r.Intn(len(all))], all[r.Intn(len(all))]
			wantApart(t, p, a, b, apartOf(p, a, b).Int64())
		}
	}
}

func TestNoPlacesApart(t *testing.T) {
	for _, p := range plans() {
		for _, at := range otherPlaces(p) {
			wantNoApart(t, p, at, place(0, 0))
			wantNoApart(t, p, place(0, 0), at)
			wantNoApart(t, p, at, place(lastRound, p.Nodes-1))
			wantNoApart(t, p, place(lastRound, p.Nodes-1), at)
			wantNoApart(t, p, at, at)
		}
	}
}

// P9.2

func TestFull(t *testing.T) {
	for _, one := range []struct {
		round int64
		slot  int
		want  bool
	}{
		{0, 0, true}, {0, 1, false}, {0, 2, true}, {0, 3, false},
		{1, 0, false}, {1, 1, true}, {1, 2, false}, {1, 3, true},
		{2, 0, true}, {2, 3, false},
		{lastRound, 0, false}, {lastRound, 1, true}, {lastRound - 1, 0, true}, {lastRound - 1, 1, false},
	} {
		for _, p := range plans() {
			wantFull(t, p, place(one.round, one.slot), one.want)
		}
	}
	// The slots of five nodes go on alternately within a round alone.
	wantFull(t, five, place(0, 4), true)
	wantFull(t, five, place(1, 0), false)
	wantFull(t, five, place(1, 4), false)
	wantFull(t, five, place(2, 0), true)
}

func TestSends(t *testing.T) {
	wantSends(t, four, place(0, 0), 248)
	wantSends(t, four, place(1, 2), 3320)
	wantSends(t, five, place(0, 1), 4799)
	wantSends(t, longSixteen, place(lastRound, 15), 1<<55-1<<20+1047307)
}

func TestExpected(t *testing.T) {
	wantExpected(t, four, place(1, 2), 3322, 3226, 3418)
	wantExpected(t, five, place(0, 0), 712, 462, 962)
	wantExpected(t, five, place(0, 1), 4811, 4561, 5061)
	last := int64(1<<55 - 1<<20)
	wantExpected(t, longSixteen, place(lastRound, 15), last+1047307, last+1047307-474, last+1047307+474)
	last = (lastRound*4 + 3) << 20
	wantExpected(t, longFour, place(lastRound, 3), last+524282, last+524282-186, last+524282+186)
}

func TestMiddle(t *testing.T) {
	wantMiddle(t, four, 2)
	wantMiddle(t, five, 12)
	wantMiddle(t, longFour, 523793)
	wantMiddle(t, longSixteen, 0)
	for _, one := range []struct{ dmin, dmax, want int64 }{
		{0, 0, 0}, {0, 1, 0}, {0, 2, 1}, {0, 3, 1}, {1, 1, 1}, {1, 2, 1}, {2, 2, 2}, {2, 3, 2}, {3, 4, 3}, {20, 20, 20}, {19, 20, 19}, {18, 20, 19},
	} {
		p := five
		p.Dmin, p.Dmax = one.dmin, one.dmax
		wantMiddle(t, p, one.want)
		wantExpected(t, p, place(0, 0), 700+one.want, 450+one.want, 950+one.want)
	}
}

// P9.3

func TestHowLongNodesListenAndWait(t *testing.T) {
	wantListen(t, four, 0, 6144)
	wantListen(t, four, 1, 6656)
	wantWait(t, four, 0, 2048)
	wantWait(t, four, 1, 2560)
	wantListen(t, five, 4, 19*4099)
	wantWait(t, five, 4, 9*4099)
	wantListen(t, longFour, 3, 15<<20)
	wantWait(t, longFour, 3, 7<<20)
	wantListen(t, longSixteen, 15, 63<<20)
	wantWait(t, longSixteen, 15, 31<<20)
}

func TestNodesThatAreNone(t *testing.T) {
	for _, p := range plans() {
		for _, node := range []int{-1, p.Nodes, p.Nodes + 1, -p.Nodes, 17} {
			wantNoNode(t, p, node)
		}
		for _, n := range far {
			wantNoNode(t, p, int(n))
		}
	}
}

// P9.1 to P9.3

func TestPlacesThatAreNone(t *testing.T) {
	for _, p := range plans() {
		for _, at := range otherPlaces(p) {
			wantNoPlace(t, p, at)
		}
	}
}

func TestPlansThatMayNotBe(t *testing.T) {
	for _, p := range broken() {
		wantMiddle(t, p, 0)
		for _, at := range append(otherPlaces(p), place(0, 0), place(1, 1), place(lastRound, 3)) {
			wantNoPlace(t, p, at)
			wantNoApart(t, p, at, at)
			wantNoApart(t, p, place(0, 0), at)
		}
		for _, n := range append([]int64{0, 1, 511, 512, 1 << 31}, far...) {
			wantNoOf(t, p, n)
			wantNoNode(t, p, int(n))
		}
	}
}

// TestPlansOfFarNumbers has numbers in a plan with which nothing may be reckoned.
func TestPlansOfFarNumbers(t *testing.T) {
	for _, n := range far {
		for _, turn := range []func(p *api.Plan){
			func(p *api.Plan) { p.Nodes = int(n) },
			func(p *api.Plan) { p.Slot = n },
			func(p *api.Plan) { p.SendOff = n },
			func(p *api.Plan) { p.Window = n },
			func(p *api.Plan) { p.Dmin = n },
			func(p *api.Plan) { p.Dmax = n },
		} {
			p := four
			turn(&p)
			wantMiddle(t, p, 0)
			wantNoPlace(t, p, place(1, 2))
			wantNoApart(t, p, place(1, 2), place(2, 1))
			wantNoOf(t, p, 3072)
			wantNoNode(t, p, 2)
		}
	}
}

func TestByTheWords(t *testing.T) {
	r := rand.New(rand.NewSource(92))
	for _, p := range append(plans(), somePlans(r, 40)...) {
		wantMiddle(t, p, middleOf(p).Int64())
		for _, at := range ownPlaces(r, p) {
			wantByTheWords(t, p, at)
		}
		for node := -2; node < 18; node++ {
			wantNode(t, p, node)
			wantByTheWords(t, p, place(r.Int63n(1<<31), node))
		}
		last := lastRound * plan.Round(p)
		for range 200 {
			wantTime(t, p, r.Int63n(last+1))
			wantTime(t, p, r.Int63n(4*plan.Round(p)))
			wantTime(t, p, last+r.Int63n(4*plan.Round(p))-2*plan.Round(p))
		}
	}
}

func TestAnyNumbers(t *testing.T) {
	r := rand.New(rand.NewSource(93))
	any64 := func() int64 { return int64(r.Uint64()) >> r.Intn(64) }
	for range 3000 {
		p := plans()[r.Intn(4)]
		wantTime(t, p, any64())
		wantNode(t, p, int(any64()))
		wantByTheWords(t, p, place(any64(), int(any64())))
	}
}

// P9.4

func TestAgainIsTheSame(t *testing.T) {
	for _, p := range plans() {
		before, at := p, place(3, 2)
		for range 3 {
			wantByTheWords(t, p, at)
			wantTime(t, p, 3*plan.Round(p))
			wantNode(t, p, 2)
			wantApart(t, p, at, place(2, 3), 1-int64(p.Nodes))
		}
		if p != before || at != place(3, 2) {
			t.Errorf("%+v and %v were turned into %+v and %v", before, place(3, 2), p, at)
		}
	}
}

func TestNoAllocation(t *testing.T) {
	// A node asks the table at each event of a run.
	most := testing.AllocsPerRun(100, func() {
		if _, err := table.Begin(longSixteen, place(3, 2)); err != api.OK {
			t.Error(err)
		}
	})
	check := testing.AllocsPerRun(100, func() { plan.Check(longSixteen) })
	if most > check {
		t.Errorf("%g allocations, more than the %g of a plan's check", most, check)
	}
}

// P9.5

// placesToLieIn are the places of a plan whose times all have a place.
func placesToLieIn(r *rand.Rand, p api.Plan) []api.Place {
	var all []api.Place
	for _, at := range ownPlaces(r, p) {
		if at.Round < lastRound || at.Slot == 0 {
			all = append(all, at)
		}
	}
	return all
}

func begin(t *testing.T, p api.Plan, at api.Place) int64 {
	t.Helper()
	n, err := table.Begin(p, at)
	if err != api.OK {
		t.Fatalf("begin of %v in %+v: error %d", at, p, err)
	}
	return n
}

func TestABeginLiesInItsPlace(t *testing.T) {
	r := rand.New(rand.NewSource(94))
	for _, p := range append(plans(), somePlans(r, 40)...) {
		for _, at := range placesToLieIn(r, p) {
			begins := begin(t, p, at)
			wantOf(t, p, begins, at)
			if at == place(0, 0) {
				wantNoOf(t, p, begins-1)
				continue
			}
			ahead, err := table.Of(p, begins-1)
			if err != api.OK {
				t.Errorf("of %d in %+v: error %d", begins-1, p, err)
			}
			wantNext(t, p, ahead, at)
			wantApart(t, p, ahead, at, 1)
		}
	}
}

func TestAWindowLiesWithinItsSlot(t *testing.T) {
	r := rand.New(rand.NewSource(95))
	for _, p := range append(plans(), somePlans(r, 40)...) {
		for _, at := range ownPlaces(r, p) {
			begins := begin(t, p, at)
			_, opens, closes, err := table.Expected(p, at)
			if err != api.OK || opens < begins || closes >= begins+p.Slot || opens > closes {
				t.Errorf("%v in %+v begins at %d; its window: %d to %d, error %d", at, p, begins, opens, closes, err)
			}
			if at.Round < lastRound {
				wantOf(t, p, opens, at)
				wantOf(t, p, closes, at)
			}
		}
	}
}

func TestEachNodeHasAFullFrameOnceInTwoRounds(t *testing.T) {
	r := rand.New(rand.NewSource(96))
	for _, p := range append(plans(), somePlans(r, 40)...) {
		for _, round := range []int64{0, 1, 2, 1 << 30, lastRound - 2, lastRound - 1, r.Int63n(lastRound)} {
			for node := range p.Nodes {
				if table.Full(p, place(round, node)) == table.Full(p, place(round+1, node)) {
					t.Errorf("node %d, rounds %d and on, in %+v: not one full frame", node, round, p)
				}
			}
		}
	}
}
