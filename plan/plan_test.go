package plan_test

import (
	"math"
	"math/rand"
	"testing"

	"vespers/api"
	"vespers/plan"
)

// field is a number of a plan: its name, how it is set, by which condition one
// that is far too small, or far too great, is refused, and whether it is wished.
type field struct {
	name   string
	set    func(p *api.Plan, n int64)
	number int
	wish   bool
}

func fields() []field {
	return []field{
		{"Nodes", func(p *api.Plan, n int64) { p.Nodes = int(n) }, 1, true},
		{"K", func(p *api.Plan, n int64) { p.K = int(n) }, 1, true},
		{"Air", func(p *api.Plan, n int64) { p.Air = n }, 2, true},
		{"Dmin", func(p *api.Plan, n int64) { p.Dmin = n }, 2, true},
		{"Dmax", func(p *api.Plan, n int64) { p.Dmax = n }, 2, true},
		{"Slot", func(p *api.Plan, n int64) { p.Slot = n }, 3, false},
		{"Rho", func(p *api.Plan, n int64) { p.Rho = n }, 3, true},
		{"Pi", func(p *api.Plan, n int64) { p.Pi = n }, 4, false},
		{"Window", func(p *api.Plan, n int64) { p.Window = n }, 5, false},
		{"Cap", func(p *api.Plan, n int64) { p.Cap = n }, 6, false},
		{"SendOff", func(p *api.Plan, n int64) { p.SendOff = n }, 7, false},
		{"Queue", func(p *api.Plan, n int64) { p.Queue = int(n) }, 9, true},
		{"Burst", func(p *api.Plan, n int64) { p.Burst = int(n) }, 9, true},
		{"Payload", func(p *api.Plan, n int64) { p.Payload = int(n) }, 9, true},
		{"Delta", func(p *api.Plan, n int64) { p.Delta = n }, 10, false},
		{"Horizon", func(p *api.Plan, n int64) { p.Horizon = n }, 11, false},
	}
}

// farOff are numbers that no field may have.
var farOff = []int64{
	math.MinInt64, math.MinInt64 + 1, math.MinInt64 + 2, -1 << 62, -1<<62 - 1, -1 << 33, -1 << 32, -1<<32 + 8, -1 << 31, -1 << 20, -1000, -2, -1,
	1<<31 + 1, 1<<32 + 1, 1<<32 + 8, 1 << 33, 1 << 40, 1 << 60, 1<<61 + 1, 1 << 62, 1<<62 + 1, 1<<62 + 4, 1<<63 - 512, math.MaxInt64 - 8, math.MaxInt64 - 1, math.MaxInt64,
}

// chapter is the plan of the chapter's first examples, with the Air that the
// second one has: without any, condition 2 does not hold.
var chapter = api.Plan{Nodes: 4, Slot: 1000, Air: 1, Dmin: 1, Dmax: 3, Rho: 100000}

// four are the wishes of the document's example: four nodes.
var four = api.Plan{Nodes: 4, K: 1, Air: 1, Dmin: 1, Dmax: 3, Rho: 100000, Queue: 2, Burst: 1, Payload: 8}

// leastOfFour is the least plan for these.
var leastOfFour = api.Plan{
	Nodes: 4, K: 1, Slot: 512, SendOff: 248, Window: 96, Air: 1, Dmin: 1, Dmax: 3, Rho: 100000, Pi: 88, Cap: 64,
	Delta: 10416, Queue: 2, Burst: 1, Payload: 8, Horizon: 81920,
}

// roomy is a plan that may be, and in which each number is above its least: e
// is 21, g 8, a 58; R is 32768; Pi is 153 at least, Window 221, Cap 116,
// SendOff 600, Slot 1368, Delta 197008, Horizon 1310720.
var roomy = api.Plan{
	Nodes: 8, K: 1, Slot: 4096, SendOff: 700, Window: 250, Air: 10, Dmin: 5, Dmax: 20, Rho: 100000, Pi: 200, Cap: 150,
	Delta: 500000, Queue: 5, Burst: 2, Payload: 8, Horizon: 3000000,
}

// with is a plan with some of its numbers set, each by its name.
func with(p api.Plan, numbers map[string]int64) api.Plan {
	for _, f := range fields() {
		if n, is := numbers[f.name]; is {
			f.set(&p, n)
		}
	}
	return p
}

func wantFails(t *testing.T, p api.Plan, want int) {
	t.Helper()
	if n := plan.Fails(p); n != want {
		t.Errorf("%+v fails %d, want %d", p, n, want)
	}
	err := api.OK
	if want != 0 {
		err = api.ErrPlan
	}
	if e := plan.Check(p); e != err {
		t.Errorf("%+v: error %d, want %d", p, e, err)
	}
}

func wantNumbers(t *testing.T, p api.Plan, wantE, wantG, wantA int64) {
	t.Helper()
	if e, g, a := plan.Numbers(p); e != wantE || g != wantG || a != wantA {
		t.Errorf("%+v: e %d, g %d, a %d; want %d, %d, %d", p, e, g, a, wantE, wantG, wantA)
	}
}

func wantRound(t *testing.T, p api.Plan, want int64) {
	t.Helper()
	if n := plan.Round(p); n != want {
		t.Errorf("%+v: a round of %d, want %d", p, n, want)
	}
}

// wantByTheWords wants of a plan all that the chapter's words say.
func wantByTheWords(t *testing.T, p api.Plan) {
	t.Helper()
	first := failing(p)
	wantFails(t, p, first)
	if first >= 1 && first <= 3 {
		wantRound(t, p, 0)
		wantNumbers(t, p, 0, 0, 0)
		return
	}
	e, g, a := numbersOf(p)
	wantRound(t, p, roundOf(p).Int64())
	wantNumbers(t, p, e.Int64(), g.Int64(), a.Int64())
}

func wantFit(t *testing.T, wishes, want api.Plan) {
	t.Helper()
	if p, err := plan.Fit(wishes); err != api.OK || p != want {
		t.Errorf("fit of %+v:\n%+v, error %d; want\n%+v", wishes, p, err, want)
	}
}

func wantNoFit(t *testing.T, wishes api.Plan) {
	t.Helper()
	if p, err := plan.Fit(wishes); err != api.ErrFit || p != (api.Plan{}) {
		t.Errorf("fit of %+v:\n%+v, error %d; want ErrFit", wishes, p, err)
	}
}

// wantTried wants of wishes the plan that is found by trying, or none.
func wantTried(t *testing.T, wishes api.Plan) {
	t.Helper()
	if p, is := tried(wishes); is {
		wantFit(t, wishes, p)
	} else {
		wantNoFit(t, wishes)
	}
}

func fit(t *testing.T, wishes api.Plan) api.Plan {
	t.Helper()
	p, err := plan.Fit(wishes)
	if err != api.OK {
		t.Fatalf("fit of %+v: error %d", wishes, err)
	}
	return p
}

// someWishes are wishes, most of which a plan fits.
func someWishes(r *rand.Rand) api.Plan {
	nodes := 4 + r.Intn(13)
	dmax := r.Int63n(1<<16) >> r.Intn(17)
	return api.Plan{
		Nodes: nodes, K: r.Intn(nodes / 2),
		Air: 1 + r.Int63n(1<<16)>>r.Intn(17), Dmin: dmax - r.Int63n(dmax+1)>>r.Intn(17), Dmax: dmax,
		Rho:   4 + r.Int63n(api.MaxRho-3)>>r.Intn(10),
		Queue: 1 + r.Intn(api.MaxQueue), Burst: 1 + r.Intn(api.MaxBurst), Payload: 1 + r.Intn(api.MaxPayload),
	}
}

// The chapter's examples, and the fifth one of the whole.

func TestExamples(t *testing.T) {
	wantNumbers(t, chapter, 8, 8, 32)
	wantFails(t, api.Plan{}, 1)
	wantFails(t, chapter, 4)
	wantNoFit(t, api.Plan{Nodes: 4, K: 1, Rho: 4})
	wantNoFit(t, api.Plan{Nodes: 4, K: 1, Air: 1, Dmin: 1, Dmax: 3, Rho: 4, Queue: 2, Burst: 1, Payload: 8})
}

func TestTheLeastPlanOfFourNodes(t *testing.T) {
	wantFit(t, four, leastOfFour)
	wantRound(t, leastOfFour, 2048)
	wantNumbers(t, leastOfFour, 8, 8, 32)
}

// P7.1

func TestPlansThatMayBe(t *testing.T) {
	wantFails(t, roomy, 0)
	wantFails(t, leastOfFour, 0)
	r := rand.New(rand.NewSource(71))
	many := 0
	for range 2000 {
		if p, err := plan.Fit(someWishes(r)); err == api.OK {
			wantFails(t, p, 0)
			many++
		}
	}
	if many < 1000 {
		t.Errorf("%d plans are too few", many)
	}
}

// at is a plan that is roomy but for some numbers, and what it fails.
type at struct {
	numbers map[string]int64
	want    int
}

func wantAt(t *testing.T, all []at) {
	t.Helper()
	for _, one := range all {
		p := with(roomy, one.numbers)
		wantFails(t, p, one.want)
		if n := failing(p); n != one.want {
			t.Errorf("%+v: by the words it fails %d, not %d", p, n, one.want)
		}
	}
}

func TestNodesAtTheirBounds(t *testing.T) {
	wantAt(t, []at{
		{map[string]int64{"Nodes": 4}, 0},
		{map[string]int64{"Nodes": 3}, 1},
		{map[string]int64{"Nodes": 3, "K": 0}, 1},
		{map[string]int64{"Nodes": 2, "K": 0}, 1},
		{map[string]int64{"Nodes": 16}, 0},
		{map[string]int64{"Nodes": 17}, 1},
		{map[string]int64{"K": 0}, 0},
		{map[string]int64{"K": -1}, 1},
		{map[string]int64{"Nodes": 4, "K": 0}, 0},
		{map[string]int64{"Nodes": 4, "K": 2}, 1},
	})
	for k := int64(1); k <= 7; k++ {
		wantAt(t, []at{
			{map[string]int64{"Nodes": 2*k + 2, "K": k}, 0},
			{map[string]int64{"Nodes": 2*k + 1, "K": k}, 1},
			{map[string]int64{"Nodes": 2*k + 2, "K": k + 1}, 1},
		})
	}
	for k := int64(1); k <= 6; k++ {
		wantAt(t, []at{
			{map[string]int64{"Nodes": 2*k + 3, "K": k}, 0},
			{map[string]int64{"Nodes": 2*k + 3, "K": k + 1}, 1},
		})
	}
	wantAt(t, []at{{map[string]int64{"Nodes": 16, "K": 8}, 1}})
}

func TestDelaysAtTheirBounds(t *testing.T) {
	wantAt(t, []at{
		{map[string]int64{"Air": 1}, 0},
		{map[string]int64{"Air": 0}, 2},
		{map[string]int64{"Air": -1}, 2},
		{map[string]int64{"Air": api.MaxSlot}, 8},
		{map[string]int64{"Air": api.MaxSlot + 1}, 2},
		{map[string]int64{"Dmin": 0}, 0},
		{map[string]int64{"Dmin": -1}, 2},
		{map[string]int64{"Dmin": 20}, 0},
		{map[string]int64{"Dmin": 21}, 2},
		{map[string]int64{"Dmin": 0, "Dmax": 0}, 0},
		{map[string]int64{"Dmin": 0, "Dmax": -1}, 2},
		{map[string]int64{"Dmin": -1, "Dmax": -1}, 2},
		{map[string]int64{"Dmin": api.MaxSlot, "Dmax": api.MaxSlot}, 8},
		{map[string]int64{"Dmin": api.MaxSlot + 1, "Dmax": api.MaxSlot + 1}, 2},
		{map[string]int64{"Dmax": api.MaxSlot}, 4},
		{map[string]int64{"Dmax": api.MaxSlot + 1}, 2},
	})
}

func TestSlotAndRhoAtTheirBounds(t *testing.T) {
	wantAt(t, []at{
		{map[string]int64{"Slot": 1}, 8},
		{map[string]int64{"Slot": 0}, 3},
		{map[string]int64{"Slot": -1}, 3},
		{map[string]int64{"Slot": api.MaxSlot}, 4},
		{map[string]int64{"Slot": api.MaxSlot + 1}, 3},
		{map[string]int64{"Rho": 4}, 4},
		{map[string]int64{"Rho": 3}, 3},
		{map[string]int64{"Rho": 0}, 3},
		{map[string]int64{"Rho": -4}, 3},
		{map[string]int64{"Rho": api.MaxRho}, 0},
		{map[string]int64{"Rho": api.MaxRho + 1}, 3},
	})
	for _, rho := range []int64{100000, api.MaxRho} {
		p := roomy
		p.Rho = rho
		longest := timed(spaced(p, api.MaxSlot))
		wantFails(t, longest, 0)
		longest.Slot++
		wantFails(t, longest, 3)
	}
	// With Rho 4 whatever the clocks need is more than a slot has.
	p := roomy
	p.Rho = 4
	wantFails(t, spaced(p, 1000), 8)
}

func TestPiWindowCapAndSendOffAtTheirBounds(t *testing.T) {
	wantAt(t, []at{
		{map[string]int64{"Pi": 153}, 0},
		{map[string]int64{"Pi": 152}, 4},
		{map[string]int64{"Pi": 0}, 4},
		{map[string]int64{"Pi": -153}, 4},
		{map[string]int64{"Pi": 229}, 0},
		{map[string]int64{"Pi": 230}, 5},
		{map[string]int64{"Pi": api.MaxSlot}, 5},
		{map[string]int64{"Pi": api.MaxSlot + 1}, 4},
		{map[string]int64{"Window": 221}, 0},
		{map[string]int64{"Window": 220}, 5},
		{map[string]int64{"Window": 350}, 0},
		{map[string]int64{"Window": 351}, 7},
		{map[string]int64{"Window": api.MaxSlot}, 7},
		{map[string]int64{"Window": api.MaxSlot + 1}, 5},
		{map[string]int64{"Cap": 116}, 0},
		{map[string]int64{"Cap": 115}, 6},
		{map[string]int64{"Cap": 250}, 0},
		{map[string]int64{"Cap": 251}, 7},
		{map[string]int64{"Cap": api.MaxSlot}, 7},
		{map[string]int64{"Cap": api.MaxSlot + 1}, 6},
		{map[string]int64{"SendOff": 600}, 0},
		{map[string]int64{"SendOff": 599}, 7},
		{map[string]int64{"SendOff": api.MaxSlot}, 8},
		{map[string]int64{"SendOff": api.MaxSlot + 1}, 7},
	})
}

func TestSlotAtItsLeast(t *testing.T) {
	wantAt(t, []at{
		{map[string]int64{"Slot": 1368}, 0},
		{map[string]int64{"Slot": 1367}, 8},
		{map[string]int64{"Slot": 1369, "SendOff": 701}, 0},
		{map[string]int64{"Slot": 1368, "SendOff": 701}, 8},
		{map[string]int64{"Slot": 1369, "Window": 251}, 0},
		{map[string]int64{"Slot": 1368, "Window": 251}, 8},
		{map[string]int64{"Slot": 1370, "Dmax": 21}, 0},
		{map[string]int64{"Slot": 1369, "Dmax": 21}, 8},
		{map[string]int64{"Slot": 1370, "Air": 11}, 0},
		{map[string]int64{"Slot": 1369, "Air": 11}, 8},
		{map[string]int64{"Slot": 1369, "Cap": 151}, 0},
		{map[string]int64{"Slot": 1368, "Cap": 151}, 8},
		{map[string]int64{"Slot": 1369, "Pi": 201}, 0},
		{map[string]int64{"Slot": 1368, "Pi": 201}, 8},
	})
}

func TestQueueBurstAndPayloadAtTheirBounds(t *testing.T) {
	wantAt(t, []at{
		{map[string]int64{"Queue": 1}, 0},
		{map[string]int64{"Queue": 0}, 9},
		{map[string]int64{"Queue": -1}, 9},
		{map[string]int64{"Queue": 64, "Burst": 8}, 0},
		{map[string]int64{"Queue": 64, "Burst": 1}, 10},
		{map[string]int64{"Queue": 65, "Burst": 8}, 9},
		{map[string]int64{"Burst": 1}, 0},
		{map[string]int64{"Burst": 0}, 9},
		{map[string]int64{"Burst": -1}, 9},
		{map[string]int64{"Burst": 8}, 0},
		{map[string]int64{"Burst": 9}, 9},
		{map[string]int64{"Queue": 0, "Burst": 0}, 9},
		{map[string]int64{"Queue": -2, "Burst": -1}, 9},
		{map[string]int64{"Payload": 1}, 0},
		{map[string]int64{"Payload": 0}, 9},
		{map[string]int64{"Payload": -1}, 9},
		{map[string]int64{"Payload": 32}, 0},
		{map[string]int64{"Payload": 33}, 9},
	})
}

func TestDeltaAtItsBounds(t *testing.T) {
	// R is 32768, Pi 200: 400 and so many rounds are the least.
	for _, one := range []struct{ queue, burst, rounds int64 }{
		{1, 1, 4}, {2, 1, 5}, {60, 1, 63},
		{4, 2, 5}, {5, 2, 6}, {6, 2, 6}, {1, 8, 4}, {7, 8, 4}, {8, 8, 4}, {9, 8, 5},
		{64, 8, 11}, {63, 8, 11}, {57, 8, 11}, {56, 8, 10}, {64, 3, 25}, {64, 7, 13},
	} {
		least := one.rounds*32768 + 400
		wantAt(t, []at{
			{map[string]int64{"Queue": one.queue, "Burst": one.burst, "Delta": least}, 0},
			{map[string]int64{"Queue": one.queue, "Burst": one.burst, "Delta": least - 1}, 10},
			{map[string]int64{"Queue": one.queue, "Burst": one.burst, "Delta": 64 * 32768}, 0},
			{map[string]int64{"Queue": one.queue, "Burst": one.burst, "Delta": 64*32768 + 1}, 10},
		})
	}
	for queue := int64(61); queue <= 64; queue++ {
		for _, delta := range []int64{64 * 32768, (queue+3)*32768 + 400} {
			wantAt(t, []at{{map[string]int64{"Queue": queue, "Burst": 1, "Delta": delta}, 10}})
		}
	}
	wantAt(t, []at{
		{map[string]int64{"Pi": 201, "Delta": 6*32768 + 402}, 0},
		{map[string]int64{"Pi": 201, "Delta": 6*32768 + 401}, 10},
		{map[string]int64{"Delta": 0}, 10},
		{map[string]int64{"Delta": -500000}, 10},
	})
}

func TestHorizonAtItsBounds(t *testing.T) {
	wantAt(t, []at{
		{map[string]int64{"Horizon": 40 * 32768}, 0},
		{map[string]int64{"Horizon": 40*32768 - 1}, 11},
		{map[string]int64{"Horizon": 0}, 11},
		{map[string]int64{"Horizon": -3000000}, 11},
		{map[string]int64{"Horizon": api.MaxHorizon}, 0},
		{map[string]int64{"Horizon": api.MaxHorizon + 1}, 11},
	})
}

// TestTheFirstOfTwo: by what a condition is broken here, those ahead of it
// are not.
func TestTheFirstOfTwo(t *testing.T) {
	broken := []map[string]int64{
		nil, {"K": 4}, {"Air": 0}, {"Rho": 3}, {"Pi": 152}, {"Window": 220}, {"Cap": 115}, {"SendOff": 599},
		{"Slot": 1300}, {"Payload": 33}, {"Delta": 1000}, {"Horizon": 1000},
	}
	for n := 1; n < len(broken); n++ {
		wantAt(t, []at{{broken[n], n}})
		for behind := n + 1; behind < len(broken); behind++ {
			wantFails(t, with(with(roomy, broken[n]), broken[behind]), n)
			wantFails(t, with(with(roomy, broken[behind]), broken[n]), n)
		}
	}
	all := roomy
	for n := len(broken) - 1; n >= 1; n-- {
		all = with(all, broken[n])
		wantFails(t, all, n)
	}
}

func TestNumbersThatNoPlanHas(t *testing.T) {
	for _, base := range []api.Plan{roomy, leastOfFour} {
		for _, f := range fields() {
			for _, n := range farOff {
				p := base
				f.set(&p, n)
				wantFails(t, p, f.number)
			}
		}
	}
}

func TestTwoNumbersFarOff(t *testing.T) {
	edges := []int64{math.MinInt64, math.MinInt64 + 1, -1 << 32, -1, 0, 1, 1 << 20, 1<<32 + 1, 1 << 62, math.MaxInt64 - 1, math.MaxInt64}
	for _, f := range fields() {
		for _, g := range fields() {
			for _, n := range edges {
				for _, m := range edges {
					p := roomy
					f.set(&p, n)
					g.set(&p, m)
					wantByTheWords(t, p)
				}
			}
		}
	}
}

func TestAllNumbersFarOff(t *testing.T) {
	for _, n := range append([]int64{0, 1, 4, 16, 1 << 20}, farOff...) {
		var p api.Plan
		for _, f := range fields() {
			f.set(&p, n)
		}
		wantByTheWords(t, p)
		wantNoFit(t, p)
	}
}

// TestByTheWords has plans that may be, or just not: the least one, and such
// as are off it by a bit, or by much.
func TestByTheWords(t *testing.T) {
	r := rand.New(rand.NewSource(72))
	met := map[int]int{}
	for range 4000 {
		base := roomy
		if p, err := plan.Fit(someWishes(r)); err == api.OK {
			base = p
		}
		for range 4 {
			p := base
			for range r.Intn(4) {
				off(r, &p)
			}
			met[failing(p)]++
			wantByTheWords(t, p)
		}
	}
	for n := 0; n <= 11; n++ {
		if met[n] < 100 {
			t.Errorf("%d plans that fail %d are too few", met[n], n)
		}
	}
}

// off turns one number of a plan.
func off(r *rand.Rand, p *api.Plan) {
	move := func(n *int64) {
		switch r.Intn(4) {
		case 0:
			*n += 1 + r.Int63n(3)
		case 1:
			*n -= 1 + r.Int63n(3)
		case 2:
			*n *= 2
		default:
			*n = r.Int63() >> r.Intn(63)
		}
	}
	small := func(n *int) { *n += r.Intn(5) - 2 }
	times := []*int64{&p.Slot, &p.SendOff, &p.Window, &p.Air, &p.Dmin, &p.Dmax, &p.Rho, &p.Pi, &p.Cap, &p.Delta, &p.Horizon}
	sizes := []*int{&p.Nodes, &p.K, &p.Queue, &p.Burst, &p.Payload}
	if n := r.Intn(len(times) + len(sizes)); n < len(times) {
		move(times[n])
	} else {
		small(sizes[n-len(times)])
	}
}

// P7.2

func TestRoundAndNumbersByTheirBounds(t *testing.T) {
	for _, one := range []struct {
		numbers    map[string]int64
		r, e, g, a int64
	}{
		{nil, 32768, 21, 8, 58},
		{map[string]int64{"Nodes": 4, "Slot": 1}, 4, 21, 8, 58},
		{map[string]int64{"Nodes": 16, "Slot": api.MaxSlot}, 1 << 24, 21, 678, 1398},
		{map[string]int64{"Nodes": 16, "Slot": api.MaxSlot, "Rho": 4}, 1 << 24, 21, 1<<24 + 8, 1<<25 + 58},
		{map[string]int64{"Nodes": 16, "Slot": api.MaxSlot, "Rho": api.MaxRho}, 1 << 24, 21, 72, 186},
		{map[string]int64{"Dmin": 0, "Dmax": api.MaxSlot}, 32768, 1<<20 + 6, 8, 1<<21 + 28},
		{map[string]int64{"Dmin": 20}, 32768, 6, 8, 28},
		// Two rounds are 65536: just so much, and one less, is once in them.
		{map[string]int64{"Rho": 65536}, 32768, 21, 10, 62},
		{map[string]int64{"Rho": 65537}, 32768, 21, 8, 58},
		{map[string]int64{"Rho": 65535}, 32768, 21, 10, 62},
		{map[string]int64{"Rho": 32768}, 32768, 21, 12, 66},
		{map[string]int64{"Rho": 32769}, 32768, 21, 10, 62},
		{map[string]int64{"Rho": 5}, 32768, 21, 26222, 52486},
	} {
		p := with(roomy, one.numbers)
		wantRound(t, p, one.r)
		wantNumbers(t, p, one.e, one.g, one.a)
	}
}

func TestRoundAndNumbersHangOnThreeConditionsAlone(t *testing.T) {
	few := api.Plan{Nodes: 8, K: 1, Slot: 4096, Air: 10, Dmin: 5, Dmax: 20, Rho: 100000}
	wantRound(t, few, 32768)
	wantNumbers(t, few, 21, 8, 58)
	for _, f := range fields() {
		for _, n := range append([]int64{0}, farOff...) {
			p := roomy
			f.set(&p, n)
			switch {
			case failing(p) == 0 || failing(p) > 3:
				wantRound(t, p, roundOf(p).Int64())
				e, g, a := numbersOf(p)
				wantNumbers(t, p, e.Int64(), g.Int64(), a.Int64())
			default:
				wantRound(t, p, 0)
				wantNumbers(t, p, 0, 0, 0)
			}
		}
	}
}

func TestNoRoundAndNoNumbers(t *testing.T) {
	wantRound(t, api.Plan{}, 0)
	wantNumbers(t, api.Plan{}, 0, 0, 0)
	for _, numbers := range []map[string]int64{
		{"Nodes": 3}, {"Nodes": 17}, {"K": -1}, {"K": 4},
		{"Air": 0}, {"Air": api.MaxSlot + 1}, {"Dmin": -1}, {"Dmin": 21}, {"Dmax": 4}, {"Dmax": api.MaxSlot + 1},
		{"Slot": 0}, {"Slot": api.MaxSlot + 1}, {"Rho": 3}, {"Rho": 0}, {"Rho": api.MaxRho + 1},
	} {
		p := with(roomy, numbers)
		wantRound(t, p, 0)
		wantNumbers(t, p, 0, 0, 0)
	}
}

func TestNoNumbersWithoutAir(t *testing.T) {
	p := chapter
	wantRound(t, p, 4000)
	p.Air = 0
	wantFails(t, p, 2)
	wantRound(t, p, 0)
	wantNumbers(t, p, 0, 0, 0)
}

// P7.3

func TestFitIsTheLeastThatIsFoundByTrying(t *testing.T) {
	r := rand.New(rand.NewSource(73))
	for range 600 {
		wantTried(t, someWishes(r))
	}
}

// TestFitWhereDriftIsMuch: there the slot goes on and on by the drift of its
// own length, up to where none is long enough.
func TestFitWhereDriftIsMuch(t *testing.T) {
	for _, nodes := range []int{4, 5, 7, 16} {
		edge := int64(128 * nodes)
		for _, rho := range []int64{4, 5, 100, edge - 1, edge, edge + 1, edge + 2, edge + 3, edge + 7, edge + 50, 2 * edge, 10 * edge} {
			w := four
			w.Nodes, w.Rho = nodes, rho
			wantTried(t, w)
			w.Dmin, w.Dmax = 0, 0
			wantTried(t, w)
		}
	}
	for rho := int64(512); rho < 700; rho++ {
		w := four
		w.Rho = rho
		wantTried(t, w)
	}
}

func TestFitUpToTheLongestSlot(t *testing.T) {
	// e is 6, 30 times it is 180; two rounds of the longest slot have Rho 8
	// times, g is 24, 32 times it is 768; and 8: 1047620 are left for both ways.
	w := api.Plan{Nodes: 4, K: 1, Rho: 1000000, Queue: 2, Burst: 1, Payload: 8}
	for _, delay := range []int64{0, 1, 1000, 523809} {
		w.Dmin, w.Dmax, w.Air = delay, delay, 523810-delay
		p := fit(t, w)
		if p.Slot != api.MaxSlot {
			t.Errorf("fit of %+v: %+v, want the longest slot", w, p)
		}
		wantTried(t, w)
		w.Air++
		wantNoFit(t, w)
		if _, is := tried(w); is {
			t.Errorf("%+v: found by trying", w)
		}
		w.Air -= 2
		wantTried(t, w)
	}
	w.Dmin, w.Dmax, w.Air = 0, 0, api.MaxSlot
	wantNoFit(t, w)
	w.Dmin, w.Dmax, w.Air = api.MaxSlot, api.MaxSlot, 1
	wantNoFit(t, w)
	w.Dmin, w.Dmax, w.Air = 0, api.MaxSlot, 1
	wantNoFit(t, w)
}

// TestFitOfASlotBehindWhichNoneFits: the least slot stands just ahead of one
// more tick of drift, so that the next ones are too short again.
func TestFitOfASlotBehindWhichNoneFits(t *testing.T) {
	met := 0
	for rho := int64(600); rho < 3000; rho++ {
		w := four
		w.Rho = rho
		p := fit(t, w)
		if next := timed(spaced(wished(w), p.Slot+1)); failing(next) == 0 {
			continue
		}
		met++
		wantTried(t, w)
	}
	if met == 0 {
		t.Error("there is none")
	}
}

func TestFitOfWishesAtTheirBounds(t *testing.T) {
	for _, numbers := range []map[string]int64{
		{"Nodes": 4}, {"Nodes": 16}, {"K": 0}, {"Nodes": 16, "K": 7}, {"Nodes": 5},
		{"Rho": api.MaxRho}, {"Dmin": 0}, {"Dmin": 3}, {"Dmin": 0, "Dmax": 0}, {"Air": 100},
		{"Queue": 1}, {"Queue": 60}, {"Queue": 64, "Burst": 8}, {"Queue": 64, "Burst": 2}, {"Queue": 63, "Burst": 8},
		{"Burst": 8}, {"Payload": 1}, {"Payload": 32},
	} {
		w := with(four, numbers)
		if _, is := tried(w); !is {
			t.Errorf("%+v: not found by trying", w)
		}
		wantTried(t, w)
	}
}

func TestWishesThatNoPlanFits(t *testing.T) {
	wantNoFit(t, api.Plan{})
	for _, numbers := range []map[string]int64{
		{"Nodes": 3}, {"Nodes": 17}, {"Nodes": 0}, {"Nodes": -4}, {"K": -1}, {"K": 2}, {"Nodes": 3, "K": 0},
		{"Air": 0}, {"Air": -1}, {"Air": api.MaxSlot + 1}, {"Dmin": -1}, {"Dmin": 4}, {"Dmax": 0}, {"Dmax": api.MaxSlot + 1},
		{"Rho": 0}, {"Rho": -100000}, {"Rho": 3}, {"Rho": 4}, {"Rho": 512}, {"Rho": api.MaxRho + 1},
		{"Queue": 0}, {"Queue": -1}, {"Queue": 65}, {"Queue": 65, "Burst": 8}, {"Queue": 0, "Burst": 8},
		{"Burst": 0}, {"Burst": -1}, {"Burst": 9}, {"Payload": 0}, {"Payload": -1}, {"Payload": 33},
		{"Queue": 61}, {"Queue": 62}, {"Queue": 63}, {"Queue": 64},
	} {
		w := with(four, numbers)
		if _, is := tried(w); is {
			t.Errorf("%+v: found by trying", w)
		}
		wantNoFit(t, w)
	}
}

func TestFitOfWishesFarOff(t *testing.T) {
	for _, f := range fields() {
		for _, n := range farOff {
			w := four
			f.set(&w, n)
			if f.wish {
				wantNoFit(t, w)
			} else {
				wantFit(t, w, leastOfFour)
			}
		}
	}
}

func TestFitOfTwoWishesFarOff(t *testing.T) {
	for _, f := range fields() {
		for _, g := range fields() {
			for _, n := range farOff {
				for _, m := range []int64{math.MinInt64, 0, math.MaxInt64} {
					w := four
					f.set(&w, n)
					g.set(&w, m)
					if f.wish || g.wish {
						wantTried(t, w)
					} else {
						wantFit(t, w, leastOfFour)
					}
				}
			}
		}
	}
}

func TestWhatElseWishesHaveDoesNotCount(t *testing.T) {
	r := rand.New(rand.NewSource(74))
	for range 1000 {
		w := someWishes(r)
		want, err := plan.Fit(w)
		for _, f := range fields() {
			if !f.wish {
				f.set(&w, int64(r.Uint64())>>r.Intn(64))
			}
		}
		if p, e := plan.Fit(w); p != want || e != err {
			t.Errorf("fit of %+v:\n%+v, error %d; want\n%+v, error %d", w, p, e, want, err)
		}
	}
	wantFit(t, roomy, fit(t, wished(roomy)))
	wantFit(t, leastOfFour, leastOfFour)
}

func TestFitHasWhatIsWished(t *testing.T) {
	r := rand.New(rand.NewSource(75))
	for range 1000 {
		w := someWishes(r)
		if p, err := plan.Fit(w); err == api.OK && wished(p) != w {
			t.Errorf("fit of %+v: %+v", w, p)
		}
	}
}

// P7.4

func TestWhatIsHandedInIsOnlyRead(t *testing.T) {
	for _, p := range []api.Plan{roomy, leastOfFour, four, chapter, {}} {
		same := p
		first, firstErr := plan.Fit(p)
		round, fails := plan.Round(p), plan.Fails(p)
		plan.Check(p)
		plan.Numbers(p)
		if p != same {
			t.Errorf("handed in, and changed: %+v, was %+v", p, same)
		}
		kept := first
		first.Slot, first.Nodes, first.Pi = 1, 2, 3
		if again, err := plan.Fit(p); again != kept || err != firstErr {
			t.Errorf("asked again: %+v, error %d; was %+v, error %d", again, err, kept, firstErr)
		}
		if plan.Round(p) != round || plan.Fails(p) != fails {
			t.Errorf("%+v: asked again, it is another round, or fails another one", p)
		}
	}
}

// P7.5

func TestTheLeastPlanMayBe(t *testing.T) {
	r := rand.New(rand.NewSource(76))
	for range 2000 {
		p, err := plan.Fit(someWishes(r))
		if err != api.OK {
			continue
		}
		if n := failing(p); n != 0 {
			t.Errorf("%+v fails %d, by the words", p, n)
		}
		wantFails(t, p, 0)
		wantNoneShorter(t, p)
		wantNoLess(t, p)
	}
}

// wantNoneShorter wants no plan for the same wishes with a slot that is less
// by 1: with the least of what has to stand in it, it is too short, and more
// would make it shorter still.
func wantNoneShorter(t *testing.T, p api.Plan) {
	t.Helper()
	shorter := timed(spaced(wished(p), p.Slot-1))
	if n := plan.Fails(shorter); n != 8 || failing(shorter) != 8 {
		t.Errorf("%+v fails %d, want 8", shorter, n)
	}
}

// wantNoLess wants each of the numbers that are not wished to be the least.
func wantNoLess(t *testing.T, p api.Plan) {
	t.Helper()
	for _, less := range []struct {
		of     *int64
		number int
	}{
		{&p.Pi, 4}, {&p.Window, 5}, {&p.Cap, 6}, {&p.SendOff, 7}, {&p.Delta, 10}, {&p.Horizon, 11},
	} {
		*less.of--
		wantFails(t, p, less.number)
		*less.of++
	}
}

func TestNoSlotThatIsLess(t *testing.T) {
	for _, w := range []api.Plan{four, wished(roomy), with(four, map[string]int64{"Rho": 700}), with(four, map[string]int64{"Nodes": 16, "K": 7})} {
		p := fit(t, w)
		for slot := int64(1); slot < p.Slot; slot++ {
			if n := plan.Fails(timed(spaced(w, slot))); n != 8 {
				t.Errorf("%+v with slot %d fails %d, want 8", w, slot, n)
			}
		}
	}
}

func TestAGreaterHorizon(t *testing.T) {
	r := rand.New(rand.NewSource(77))
	for range 1000 {
		p, err := plan.Fit(someWishes(r))
		if err != api.OK {
			continue
		}
		least := p.Horizon
		for _, more := range []int64{least, least + 1, least + r.Int63n(api.MaxHorizon-least+1), api.MaxHorizon - 1, api.MaxHorizon} {
			p.Horizon = more
			wantFails(t, p, 0)
		}
		p.Horizon = api.MaxHorizon + 1
		wantFails(t, p, 11)
	}
}
