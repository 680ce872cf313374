package bus_test

import (
	"bytes"
	"fmt"
	"math"
	"math/rand"
	"slices"
	"testing"

	"vespers/api"
	"vespers/bus"
	"vespers/plan"
)

// four is the least plan of four nodes.
var four = api.Plan{
	Nodes: 4, K: 1, Slot: 512, SendOff: 248, Window: 96, Air: 1, Dmin: 1, Dmax: 3, Rho: 100000, Pi: 88, Cap: 64,
	Delta: 10416, Queue: 2, Burst: 1, Payload: 8, Horizon: 81920,
}

// slow is one of four nodes whose frames take long: half a Slot is 1000.
var slow = longer(fitted(4, 1, 20, 0, 30), 2000)

// fitted is the least plan for some wishes.
func fitted(nodes, k int, air, dmin, dmax int64) api.Plan {
	p, err := plan.Fit(api.Plan{Nodes: nodes, K: k, Air: air, Dmin: dmin, Dmax: dmax, Rho: 100000, Queue: 2, Burst: 1, Payload: 8})
	if err != api.OK {
		panic("no plan fits")
	}
	return p
}

// longer is a plan with a longer Slot, and the room that goes with it.
func longer(p api.Plan, slot int64) api.Plan {
	p.Slot = slot
	r := int64(p.Nodes) * slot
	_, g, a := plan.Numbers(p)
	e := p.Dmax - p.Dmin + 6
	p.Pi = 2*(a+g) + e
	p.Window = p.Pi + e
	p.Cap = a + 2*g + 2*e
	p.SendOff = p.Window + p.Cap + p.Pi
	p.Delta, p.Horizon = 5*r+2*p.Pi, 40*r
	return p
}

// plans are of 4 nodes, of 16, and of some between; with Slots that are even
// and that are odd; with delays that are all the same, and far apart.
func plans() []api.Plan {
	return []api.Plan{
		four,
		longer(four, 513),
		slow,
		longer(slow, 2001),
		fitted(4, 0, 3, 7, 7),
		longer(fitted(5, 1, 8, 0, 0), 1111),
		fitted(7, 2, 2, 0, 300),
		longer(fitted(16, 7, 5, 0, 9), 1500),
		longer(fitted(16, 7, 5, 0, 9), 1501),
		longer(fitted(16, 3, 4, 2, 2), 1<<20),
		longer(fitted(6, 2, 64, 10, 200), 1<<20-1),
	}
}

// broken are plans that may not be, each by one number alone, and that of zeros.
func broken() (all []api.Plan) {
	for _, turn := range []func(p *api.Plan){
		func(p *api.Plan) { p.K = 2 },
		func(p *api.Plan) { p.K = -1 },
		func(p *api.Plan) { p.Nodes = 3 },
		func(p *api.Plan) { p.Nodes = 17 },
		func(p *api.Plan) { p.Nodes = -4 },
		func(p *api.Plan) { p.Air = 0 },
		func(p *api.Plan) { p.Dmin = 4 },
		func(p *api.Plan) { p.Dmin = -1 },
		func(p *api.Plan) { p.Dmax = 1000 },
		func(p *api.Plan) { p.Slot = 0 },
		func(p *api.Plan) { p.Slot-- },
		func(p *api.Plan) { p.Slot = 1<<20 + 1 },
		func(p *api.Plan) { p.Rho = 3 },
		func(p *api.Plan) { p.Pi-- },
		func(p *api.Plan) { p.Window-- },
		func(p *api.Plan) { p.Cap-- },
		func(p *api.Plan) { p.SendOff-- },
		func(p *api.Plan) { p.Queue = 0 },
		func(p *api.Plan) { p.Burst = 9 },
		func(p *api.Plan) { p.Payload = 33 },
		func(p *api.Plan) { p.Delta-- },
		func(p *api.Plan) { p.Horizon-- },
		func(p *api.Plan) { p.Horizon = api.MaxHorizon + 1 },
	} {
		p := four
		turn(&p)
		all = append(all, p)
	}
	return append(all, api.Plan{})
}

// far are numbers that no id, no node and no channel is.
var far = []int{
	math.MinInt, math.MinInt + 1, -1 << 62, -1 << 33, -1 << 32, -1<<32 + 1, -1 << 31, -17, -16, -4, -2, -1,
	1 << 20, 1 << 31, 1 << 32, 1<<32 + 1, 1 << 33, 1 << 62, math.MaxInt - 1, math.MaxInt,
}

// farTimes are times at which nothing may be sent.
var farTimes = []int64{
	math.MinInt64, math.MinInt64 + 1, -1 << 62, -1 << 33, -1 << 32, -1<<32 + 1, -1 << 31, -1000, -2, -1,
	lastTime + 1, lastTime + 2, 1 << 33, 1 << 62, math.MaxInt64 - 1, math.MaxInt64,
}

// line is a bus, and what it has to be by the words.
type line struct {
	t *testing.T
	*bus.Bus
	ether
}

func newLine(t *testing.T, p api.Plan) *line {
	t.Helper()
	b, err := bus.New(p)
	if err != api.OK || b == nil {
		t.Fatalf("error %d of %+v", err, p)
	}
	return &line{t, b, ether{plan: p}}
}

// comes sends, and wants what the words say of it.
func (l *line) comes(from int, at int64, raw []byte, fates []api.Fate) {
	l.t.Helper()
	id, passed, err := l.send(sent{from, at, raw, fates})
	if i, is, e := l.Send(from, at, raw, fates); i != id || is != passed || e != err {
		l.t.Errorf("node %d at %d with %d fates: %d, %t, error %d; want %d, %t, error %d", from, at, len(fates), i, is, e, id, passed, err)
	}
}

// passes sends, and wants that it passes; stays wants that it does not.
func (l *line) passes(from int, at int64) {
	l.t.Helper()
	l.guarded(from, at, true)
}

func (l *line) stays(from int, at int64) {
	l.t.Helper()
	l.guarded(from, at, false)
}

func (l *line) guarded(from int, at int64, want bool) {
	l.t.Helper()
	l.wantFree(at, want)
	l.comes(from, at, []byte("ab"), nil)
	if many := len(l.all); many == 0 || l.all[many-1].at != at || l.passings()[many-1] != want {
		l.t.Errorf("by the words, node %d at %d passes: %t", from, at, !want)
	}
	if l.Len() != len(l.all) {
		l.t.Errorf("%d sendings, want %d", l.Len(), len(l.all))
	}
}

func (l *line) wantFree(at int64, want bool) {
	l.t.Helper()
	if l.Free(at) != want || l.free(at) != want {
		l.t.Errorf("free at %d: %t, by the words %t; want %t", at, l.Free(at), l.free(at), want)
	}
}

// refuses wants that a sending may not be, and leaves the bus as it was.
func (l *line) refuses(from int, at int64, fates []api.Fate) {
	l.t.Helper()
	before := l.told()
	if id, passed, err := l.Send(from, at, []byte("no"), fates); id != 0 || passed || err != api.ErrBus {
		l.t.Errorf("node %d at %d with fates %v: %d, %t, error %d; want ErrBus", from, at, fates, id, passed, err)
	}
	if l.mayCome(sent{from: from, at: at, fates: fates}) {
		l.t.Errorf("node %d at %d with fates %v may be sent, by the words", from, at, fates)
	}
	if l.told() != before {
		l.t.Errorf("node %d at %d was refused, and changed the bus", from, at)
	}
}

// told is all that a bus says of itself.
func (l *line) told() string {
	var all bytes.Buffer
	fmt.Fprint(&all, l.Len())
	for id := range l.Len() {
		fmt.Fprint(&all, l.Due(id))
		for receiver := range l.plan.Nodes {
			for channel := range 2 {
				heard, is := l.Take(id, receiver, channel)
				fmt.Fprint(&all, heard, is)
			}
		}
	}
	for _, at := range l.times() {
		fmt.Fprint(&all, l.Free(at))
	}
	return all.String()
}

// times are those at which something may turn, and the ticks beside them.
func (l *line) times() []int64 {
	all := append([]int64{0, 1, lastTime - 1, lastTime}, farTimes...)
	for _, s := range l.all {
		for _, at := range []int64{s.at, s.at + l.plan.Slot/2, s.at + (l.plan.Slot+1)/2, s.at + l.plan.Slot} {
			all = append(all, at-1, at, at+1)
		}
	}
	return all
}

// wantTake wants how a frame is heard, by the words.
func (l *line) wantTake(id, receiver, channel int) {
	l.t.Helper()
	want, wantIs := l.take(id, receiver, channel)
	got, is := l.Take(id, receiver, channel)
	if is != wantIs || got.From != want.From || got.Channel != want.Channel || got.Arrive != want.Arrive || !bytes.Equal(got.Bytes, want.Bytes) {
		l.t.Errorf("take of %d at %d on %d: %+v, %t; want %+v, %t", id, receiver, channel, got, is, want, wantIs)
	}
}

// wantHeard wants whether a frame is heard, and wantSame what the words say.
func (l *line) wantHeard(id, receiver, channel int, want bool) {
	l.t.Helper()
	l.wantTake(id, receiver, channel)
	if _, is := l.Take(id, receiver, channel); is != want {
		l.t.Errorf("%d is heard at %d on %d: %t, want %t", id, receiver, channel, is, want)
	}
}

func (l *line) wantDue(id int, want ...api.Due) {
	l.t.Helper()
	if got := l.Due(id); !slices.Equal(got, want) {
		l.t.Errorf("due of %d: %v, want %v", id, got, want)
	}
	if by := l.due(id); !slices.Equal(by, want) {
		l.t.Errorf("due of %d, by the words: %v, want %v", id, by, want)
	}
}

// wantSame wants all that the words say of the sendings from one on.
func (l *line) wantSame(first int) {
	l.t.Helper()
	if l.Len() != len(l.all) {
		l.t.Errorf("%d sendings, want %d", l.Len(), len(l.all))
	}
	for id := first; id < len(l.all); id++ {
		l.wantDue(id, l.due(id)...)
		for receiver := range l.plan.Nodes {
			l.wantTake(id, receiver, 0)
			l.wantTake(id, receiver, 1)
		}
	}
}

// alike are as many fates that are all the same.
func alike(many int, fate api.Fate) []api.Fate {
	return slices.Repeat([]api.Fate{fate}, many)
}

// late is a fate of that delay.
func late(delay int64) api.Fate { return api.Fate{Delay: delay} }

// someFates are of any number, delays that are often the least and the
// greatest, some lost, some cut.
func someFates(r *rand.Rand, p api.Plan) (all []api.Fate) {
	many := []int{0, 1, p.Nodes, 2*p.Nodes - 1, 2 * p.Nodes, r.Intn(2*p.Nodes + 1)}[r.Intn(6)]
	for range many {
		delay := []int64{p.Dmin, p.Dmax, p.Dmin + r.Int63n(p.Dmax-p.Dmin+1)}[r.Intn(3)]
		all = append(all, api.Fate{Delay: delay, Lost: r.Intn(5) == 0, Cut: r.Intn(5) == 0})
	}
	return all
}

// someStep is how far a sending is behind the last one.
func someStep(r *rand.Rand, p api.Plan) int64 {
	half := p.Slot / 2
	switch r.Intn(4) {
	case 0:
		return r.Int63n(p.Air + 2)
	case 1:
		return r.Int63n(2*(p.Dmax+p.Air) + 2)
	case 2:
		return half - 1 + r.Int63n(3)
	}
	return r.Int63n(p.Slot)
}

// busy sends at random, and wants each time what the words say.
func busy(t *testing.T, r *rand.Rand, p api.Plan, many int) *line {
	t.Helper()
	l := newLine(t, p)
	at := r.Int63n(3)
	for range many {
		raw := make([]byte, r.Intn(4))
		r.Read(raw)
		l.comes(r.Intn(p.Nodes), at, raw, someFates(r, p))
		at += someStep(r, p)
	}
	return l
}

// The chapter's examples.

func TestExamples(t *testing.T) {
	b, err := bus.New(four)
	if err != api.OK {
		t.Fatalf("error %d", err)
	}
	if id, passed, err := b.Send(0, 100, []byte("ab"), nil); id != 0 || !passed || err != api.OK {
		t.Errorf("sent: %d, %t, error %d", id, passed, err)
	}
	due := []api.Due{
		{Receiver: 1, Channel: 0, At: 102}, {Receiver: 2, Channel: 0, At: 102}, {Receiver: 3, Channel: 0, At: 102},
		{Receiver: 1, Channel: 1, At: 102}, {Receiver: 2, Channel: 1, At: 102}, {Receiver: 3, Channel: 1, At: 102},
	}
	if got := b.Due(0); !slices.Equal(got, due) {
		t.Errorf("due: %v", got)
	}
	if h, is := b.Take(0, 1, 0); !is || h.From != 0 || h.Channel != 0 || h.Arrive != 101 || string(h.Bytes) != "ab" {
		t.Errorf("at node 1: %+v, %t", h, is)
	}
	if h, is := b.Take(0, 0, 0); is || h.From != 0 || h.Arrive != 0 || len(h.Bytes) != 0 {
		t.Errorf("at node 0: %+v, %t", h, is)
	}
	if _, is := b.Take(0, 2, 0); !is {
		t.Error("node 2 hears nothing, though it has not sent")
	}
	if id, passed, err := b.Send(2, 101, nil, nil); id != 1 || passed || err != api.OK {
		t.Errorf("sent: %d, %t, error %d", id, passed, err)
	}
	if h, is := b.Take(0, 2, 0); is {
		t.Errorf("at node 2: %+v", h)
	}
	if !b.Free(356) || b.Free(355) {
		t.Errorf("free at 356: %t, at 355: %t", b.Free(356), b.Free(355))
	}
	if b.Len() != 2 {
		t.Errorf("%d sendings", b.Len())
	}
}

// P12.1

func TestLimits(t *testing.T) {
	if api.ErrNil != 1 || api.ErrBus != 120 || api.MaxTime != lastTime {
		t.Error("other numbers than the document's")
	}
}

func TestPlansThatMayBe(t *testing.T) {
	even, odd := 0, 0
	for _, p := range plans() {
		if plan.Fails(p) != 0 {
			t.Errorf("%+v fails %d", p, plan.Fails(p))
		}
		if p.Slot%2 == 0 {
			even++
		} else {
			odd++
		}
		l := newLine(t, p)
		if l.Len() != 0 || l.Due(0) != nil {
			t.Errorf("%d sendings, due %v; want none", l.Len(), l.Due(0))
		}
		for receiver := range p.Nodes {
			l.wantHeard(0, receiver, 0, false)
			l.wantHeard(0, receiver, 1, false)
		}
	}
	if even == 0 || odd == 0 || slow.Slot != 2000 {
		t.Error("other plans than these tests need")
	}
}

func TestPlansThatMayNotBe(t *testing.T) {
	for n, p := range broken() {
		if plan.Fails(p) == 0 {
			t.Errorf("broken plan %d fails nothing", n)
		}
		if b, err := bus.New(p); b != nil || err != api.ErrBus {
			t.Errorf("broken plan %d: error %d, want ErrBus", n, err)
		}
	}
}

func TestABusThatNobodyMade(t *testing.T) {
	for name, b := range map[string]*bus.Bus{"none": nil, "a zero": {}, "a new one": new(bus.Bus)} {
		for _, from := range append([]int{0, 1, 3, 4}, far...) {
			for _, at := range append([]int64{0, 100, lastTime}, farTimes...) {
				if id, passed, err := b.Send(from, at, []byte("ab"), nil); id != 0 || passed || err != api.ErrNil {
					t.Errorf("%s: %d, %t, error %d, want ErrNil", name, id, passed, err)
				}
				if b.Free(at) {
					t.Errorf("%s is free at %d", name, at)
				}
			}
			if _, _, err := b.Send(0, 0, nil, alike(99, late(-1))); err != api.ErrNil {
				t.Errorf("%s: error %d, want ErrNil", name, err)
			}
			h, is := b.Take(from, 1, 0)
			if due := b.Due(from); len(due) != 0 || is || h.From != 0 || h.Channel != 0 || h.Arrive != 0 || h.Bytes != nil || b.Len() != 0 {
				t.Errorf("%s has %v, %+v, %d", name, due, h, b.Len())
			}
		}
	}
}

func TestNumbersOfSendings(t *testing.T) {
	for _, p := range plans() {
		l := newLine(t, p)
		for n := range 40 {
			id, _, err := l.Send(n%p.Nodes, int64(n)*p.Slot/7, nil, nil)
			if id != n || err != api.OK || l.Len() != n+1 {
				t.Errorf("sending %d is %d of %d, error %d", n, id, l.Len(), err)
			}
		}
	}
}

func TestTheGuardian(t *testing.T) {
	for _, p := range plans() {
		half, last := p.Slot/2, p.Nodes-1
		l := newLine(t, p)
		l.passes(0, 100)
		l.stays(1, 100) // the last one's time
		l.stays(last, 101)
		l.stays(0, 100+half-1) // one tick earlier
		l.passes(0, 100+half)
		l.stays(2, 100+half)
		l.stays(1, 100+2*half-1)
		l.passes(last, 100+2*half+1) // one tick later
		l.stays(1, 100+3*half)       // half a slot behind the last but one
		l.passes(1, 100+3*half+1)
		l.stays(2, 100+4*half)
		l.passes(2, 100+5*half) // half a slot behind one that did not pass, and more behind one that did
		l.passes(3, 100+50*half)
		l.wantSame(0)
	}
}

func TestTheGuardianOfAnOddSlot(t *testing.T) {
	l := newLine(t, longer(four, 513))
	l.passes(0, 0)
	l.stays(1, 255)
	l.passes(1, 256)
	l.passes(1, 513)
	l = newLine(t, longer(four, 514))
	l.passes(0, 0)
	l.stays(1, 256)
	l.passes(1, 257)
}

func TestWhoStaysDoesNotHoldOthersUp(t *testing.T) {
	l := newLine(t, four)
	l.passes(0, 0)
	for at := int64(1); at < 256; at++ {
		l.stays(int(at)%4, at)
	}
	l.passes(3, 256)
	for at := int64(257); at < 512; at += 5 {
		l.stays(3, at)
	}
	l.passes(3, 512)
}

func TestTimesOfSendings(t *testing.T) {
	for _, p := range plans() {
		l := newLine(t, p)
		l.passes(0, 0) // there is none ahead
		l.stays(0, 0)
		l.stays(1, 0)
		l.passes(1, lastTime)
		l.stays(1, lastTime)
		l.stays(2, lastTime)
		l.refuses(2, lastTime-1, nil)
		l.wantDue(0, l.due(0)...)
		l.wantSame(0)
		l = newLine(t, p)
		l.passes(3, lastTime)
		l.refuses(3, 0, nil)
		l.wantSame(0)
	}
	l := newLine(t, four)
	l.passes(3, lastTime)
	l.wantDue(0,
		api.Due{Receiver: 0, Channel: 0, At: 4294967298}, api.Due{Receiver: 1, Channel: 0, At: 4294967298}, api.Due{Receiver: 2, Channel: 0, At: 4294967298},
		api.Due{Receiver: 0, Channel: 1, At: 4294967298}, api.Due{Receiver: 1, Channel: 1, At: 4294967298}, api.Due{Receiver: 2, Channel: 1, At: 4294967298})
	if h, is := l.Take(0, 2, 1); !is || h.Arrive != 4294967297 || h.From != 3 || h.Channel != 1 {
		t.Errorf("at node 2: %+v, %t", h, is)
	}
}

func TestTimesAtWhichNothingMayBeSent(t *testing.T) {
	for _, p := range plans() {
		l := newLine(t, p)
		for _, at := range farTimes {
			l.refuses(0, at, nil)
		}
		l.passes(0, 5000)
		l.stays(0, 5001)
		for _, at := range append([]int64{0, 1, 4999, 5000, 5000 - p.Slot, 5000 - p.Slot/2}, farTimes...) {
			l.refuses(1, at, nil)
		}
		l.stays(0, 5001)
		l.wantSame(0)
	}
}

func TestSendersThatThereAreNot(t *testing.T) {
	for _, p := range plans() {
		l := newLine(t, p)
		all := append([]int{p.Nodes, p.Nodes + 1}, far...)
		for _, from := range all {
			l.refuses(from, 0, nil)
		}
		l.passes(p.Nodes-1, 7)
		for _, from := range all {
			l.refuses(from, 7, nil)
			l.refuses(from, 7+p.Slot, nil)
		}
		for from := range p.Nodes {
			l.passes(from, 7+int64(from+1)*p.Slot)
		}
		l.wantSame(0)
	}
}

func TestTooManyFates(t *testing.T) {
	for _, p := range plans() {
		l := newLine(t, p)
		l.passes(0, 3)
		for _, many := range []int{2*p.Nodes + 1, 2*p.Nodes + 2, 3 * p.Nodes, 1000} {
			l.refuses(1, 3+p.Slot, alike(many, late(p.Dmin)))
			l.refuses(1, 3, alike(many, late(p.Dmin)))
		}
		l.comes(1, 3+p.Slot, nil, alike(2*p.Nodes, late(p.Dmax)))
		l.wantSame(0)
	}
}

func TestDelaysThatMayNotBe(t *testing.T) {
	for _, p := range []api.Plan{four, slow, fitted(4, 0, 3, 7, 7), longer(fitted(5, 1, 8, 0, 0), 1111)} {
		l := newLine(t, p)
		l.passes(0, 3)
		for _, delay := range append([]int64{p.Dmin - 1, p.Dmax + 1}, farTimes...) {
			for place := range 2 * p.Nodes {
				for _, what := range []api.Fate{{}, {Lost: true}, {Cut: true}, {Lost: true, Cut: true}} {
					what.Delay = delay
					fates := alike(2*p.Nodes, late(p.Dmin))
					fates[place] = what
					l.refuses(1, 3+p.Slot, fates) // also at the sender itself
					l.refuses(1, 3, fates[:place+1])
				}
			}
		}
		for _, delay := range []int64{p.Dmin, p.Dmax} {
			l.comes(1, 3+p.Slot, nil, alike(2*p.Nodes, api.Fate{Delay: delay, Lost: true, Cut: true}))
		}
		l.wantSame(0)
	}
}

func TestWhatMayBeRefusedTwice(t *testing.T) {
	l := newLine(t, four)
	for range 3 {
		l.refuses(-1, -1, alike(9, late(-1)))
		l.refuses(4, 0, alike(9, late(0)))
		l.refuses(0, -1, alike(8, late(4)))
	}
	l.wantFree(0, true)
	l.passes(0, 0)
	l.refuses(1, 256, alike(1, late(0))) // it would have passed
	l.refuses(1, 300, alike(9, late(1)))
	l.refuses(4, 400, nil)
	l.passes(1, 256)
}

// P12.2

func TestFatesThatAreTold(t *testing.T) {
	for _, p := range plans() {
		for many := range 2*p.Nodes + 1 {
			if many > 2 && many%p.Nodes > 1 && many%p.Nodes < p.Nodes-1 {
				continue
			}
			for from := range p.Nodes {
				l := newLine(t, p)
				l.comes(from, 50, []byte("abc"), alike(many, late(p.Dmax)))
				l.comes(from, 50+p.Slot, []byte("abc"), alike(many, api.Fate{Delay: p.Dmax, Lost: true}))
				l.comes(from, 50+2*p.Slot, []byte("abc"), alike(many, api.Fate{Delay: p.Dmin, Cut: true}))
				l.comes(from, 50+3*p.Slot, []byte("abc"), alike(many, api.Fate{Delay: p.Dmin, Lost: true, Cut: true}))
				l.comes(from, 50+4*p.Slot, []byte("abc"), nil)
				l.wantSame(0)
			}
		}
	}
}

func TestFatesByHand(t *testing.T) {
	fates := []api.Fate{{Delay: 3}, {Delay: 2, Lost: true}, {Delay: 2}, {Delay: 1, Cut: true}, {Delay: 1, Lost: true}, {Delay: 3, Lost: true, Cut: true}, {Delay: 3}}
	l := newLine(t, four)
	l.comes(2, 1000, []byte("abc"), fates)
	l.wantDue(0,
		api.Due{Receiver: 0, Channel: 0, At: 1004},
		api.Due{Receiver: 3, Channel: 0, At: 1002},
		api.Due{Receiver: 3, Channel: 1, At: 1002}) // the one that is not told
	l.comes(0, 1000+512, []byte("abc"), fates)
	l.wantDue(1,
		api.Due{Receiver: 2, Channel: 0, At: 1515},
		api.Due{Receiver: 3, Channel: 0, At: 1514},
		api.Due{Receiver: 2, Channel: 1, At: 1516},
		api.Due{Receiver: 3, Channel: 1, At: 1514})
	for _, one := range []struct {
		id, receiver, channel int
		is                    bool
		arrive                int64
		raw                   string
	}{
		{0, 0, 0, true, 1003, "abc"},
		{0, 0, 1, false, 0, ""},
		{0, 1, 0, false, 0, ""},
		{0, 1, 1, false, 0, ""},
		{0, 2, 0, false, 0, ""},
		{0, 2, 1, false, 0, ""},
		{0, 3, 0, true, 1001, "ab"},
		{0, 3, 1, true, 1001, "abc"},
		{1, 0, 0, false, 0, ""},
		{1, 1, 0, false, 0, ""},
		{1, 2, 0, true, 1514, "abc"},
		{1, 2, 1, true, 1515, "abc"},
		{1, 3, 0, true, 1513, "ab"},
	} {
		h, is := l.Take(one.id, one.receiver, one.channel)
		if is != one.is || h.Arrive != one.arrive || string(h.Bytes) != one.raw {
			t.Errorf("take of %+v: %+v, %t", one, h, is)
		}
		if is && (h.From != []int{2, 0}[one.id] || h.Channel != one.channel) {
			t.Errorf("take of %+v: %+v", one, h)
		}
	}
	l.wantSame(0)
}

func TestAFrameThatIsLostToAll(t *testing.T) {
	for _, p := range plans() {
		l := newLine(t, p)
		l.comes(1, 9, []byte("abc"), alike(2*p.Nodes, api.Fate{Delay: p.Dmin, Lost: true}))
		l.wantDue(0)
		l.stays(2, 9) // it passed, may anyone have it or not
		l.wantSame(0)
	}
}

func TestAFrameOfOneChannel(t *testing.T) {
	for _, p := range plans() {
		lost, fine := alike(p.Nodes, api.Fate{Delay: p.Dmax, Lost: true}), alike(p.Nodes, late(p.Dmax))
		for channel, fates := range [][]api.Fate{slices.Concat(fine, lost), slices.Concat(lost, fine)} {
			l := newLine(t, p)
			l.comes(0, 9, []byte("abc"), fates)
			for receiver := 1; receiver < p.Nodes; receiver++ {
				l.wantHeard(0, receiver, channel, true)
				l.wantHeard(0, receiver, 1-channel, false)
			}
			l.wantSame(0)
		}
	}
}

func TestWhatStaysIsNowhere(t *testing.T) {
	for _, p := range plans() {
		l := newLine(t, p)
		l.passes(0, 0)
		for n := range 3 {
			l.comes(n, p.Slot/2-1, []byte("abc"), alike(2*p.Nodes-n, late(p.Dmin)))
			l.wantDue(n + 1)
			for receiver := range p.Nodes {
				l.wantHeard(n+1, receiver, 0, false)
				l.wantHeard(n+1, receiver, 1, false)
			}
		}
		l.wantSame(0)
	}
}

func TestBytesAsTheyAreHeard(t *testing.T) {
	long := bytes.Repeat([]byte("0123456789"), 200)
	for _, one := range []struct{ raw, cut []byte }{
		{nil, nil}, {[]byte{}, nil}, {[]byte{0}, nil}, {[]byte("a"), nil}, {[]byte("ab"), []byte("a")},
		{[]byte{0, 0}, []byte{0}}, {[]byte("abc"), []byte("ab")}, {long, long[:1999]},
	} {
		for _, p := range plans() {
			fates := alike(2*p.Nodes, api.Fate{Delay: p.Dmax, Cut: true})
			fates[1].Cut, fates[p.Nodes+2].Cut = false, false
			l := newLine(t, p)
			l.comes(0, 9, one.raw, fates)
			l.comes(0, 9+p.Slot, one.raw, nil)
			for receiver := 1; receiver < p.Nodes; receiver++ {
				for channel := range 2 {
					want := one.cut
					if !fates[channel*p.Nodes+receiver].Cut {
						want = one.raw
					}
					if h, is := l.Take(0, receiver, channel); !is || !bytes.Equal(h.Bytes, want) || h.Arrive != 9+p.Dmax {
						t.Errorf("%q at %d on %d: %+v, %t", one.raw, receiver, channel, h, is)
					}
					if h, is := l.Take(1, receiver, channel); !is || !bytes.Equal(h.Bytes, one.raw) || h.Arrive != 9+p.Slot+p.Dmin {
						t.Errorf("%q at %d on %d: %+v, %t", one.raw, receiver, channel, h, is)
					}
				}
			}
			l.wantSame(0)
		}
	}
}

func TestFramesThatThereAreNot(t *testing.T) {
	for _, p := range plans() {
		l := newLine(t, p)
		l.passes(0, 0)
		l.passes(1, p.Slot)
		for _, n := range append([]int{2, 3}, far...) {
			l.wantDue(n)
			for receiver := range p.Nodes {
				l.wantHeard(n, receiver, 0, false)
				l.wantHeard(n, receiver, 1, false)
			}
			l.wantHeard(n, n, n, false)
		}
		for _, n := range append([]int{p.Nodes, p.Nodes + 1, 2 * p.Nodes, 16, 17, 32}, far...) {
			if n < 0 || n >= p.Nodes {
				l.wantHeard(0, n, 0, false)
				l.wantHeard(1, n, 1, false)
			}
		}
		for _, n := range append([]int{2, 3, 4, 16}, far...) {
			l.wantHeard(0, 1, n, false)
			l.wantHeard(1, 0, n, false)
		}
	}
}

// ownAhead is the frame of node 0 at node 1, which begins at that time behind
// the sending of 10000; and one of node 1 that came ahead of it, and stayed.
func ownAhead(t *testing.T, delay, own int64) *line {
	l := newLine(t, slow)
	l.passes(3, 9000)
	l.stays(1, own)
	l.comes(0, 10000, []byte("ab"), alike(8, late(delay)))
	return l
}

// TestOwnSendingsAhead: of slow, Air is 20, and delays go up to 30.
func TestOwnSendingsAhead(t *testing.T) {
	for _, one := range []struct {
		delay, own int64
		want       bool
	}{
		{0, 9979, true}, {0, 9980, true}, {0, 9981, false}, {0, 9999, false},
		{10, 9989, true}, {10, 9990, true}, {10, 9991, false}, {10, 9999, false},
		{18, 9997, true}, {18, 9998, true}, {18, 9999, false},
		{19, 9999, true}, {20, 9999, true}, {30, 9999, true},
		{0, 9000, true}, {30, 9000, true}, {0, 9500, true},
	} {
		l := ownAhead(t, one.delay, one.own)
		for channel := range 2 {
			l.wantHeard(2, 1, channel, one.want)
			l.wantHeard(2, 2, channel, true) // who has not sent
			l.wantHeard(2, 3, channel, true) // whose sending was long ago
		}
		l.wantSame(0)
	}
}

func TestOwnSendingsBehind(t *testing.T) {
	for _, one := range []struct {
		delay, own int64
		want       bool
	}{
		{0, 10000, false}, {0, 10001, false}, {0, 10019, false}, {0, 10020, true}, {0, 10021, true},
		{10, 10000, false}, {10, 10009, false}, {10, 10010, false}, {10, 10011, false}, {10, 10029, false}, {10, 10030, true}, {10, 10031, true},
		{19, 10000, false}, {20, 10000, true}, {20, 10001, false}, {20, 10039, false}, {20, 10040, true}, {20, 10041, true},
		{30, 10000, true}, {30, 10009, true}, {30, 10010, true}, {30, 10011, false}, {30, 10029, false}, {30, 10030, false}, {30, 10031, false},
		{30, 10049, false}, {30, 10050, true}, {30, 10051, true}, {30, 10999, true}, {0, 10999, true},
	} {
		l := newLine(t, slow)
		l.comes(0, 10000, []byte("ab"), alike(8, late(one.delay)))
		l.wantHeard(0, 1, 0, true)
		l.stays(1, one.own)
		for channel := range 2 {
			l.wantHeard(0, 1, channel, one.want)
			l.wantHeard(0, 2, channel, true)
			l.wantHeard(0, 3, channel, true)
		}
		l.passes(1, 11000)
		l.wantHeard(0, 1, 0, one.want)
		l.wantSame(0)
	}
}

func TestOwnSendingsThatPassed(t *testing.T) {
	const at = 3 << 20
	for _, p := range plans() {
		half := p.Slot / 2
		for _, delay := range []int64{p.Dmin, p.Dmax} {
			l := newLine(t, p)
			l.passes(1, at-half)
			l.comes(0, at, []byte("ab"), alike(2*p.Nodes, late(delay)))
			l.passes(1, at+half)
			for id := range 3 {
				l.wantHeard(id, 1, 0, id == 1) // they are never so near that it is not heard
				l.wantHeard(id, 0, 1, id != 1)
				l.wantHeard(id, 2, 1, true)
			}
			l.wantSame(0)
		}
	}
}

// TestOwnSendingsOfEachPlan: one of the receiver's own, that began and ended
// just at, one tick ahead of, and one tick behind the frame's.
func TestOwnSendingsOfEachPlan(t *testing.T) {
	const at = 3 << 20
	for _, p := range plans() {
		for _, delay := range []int64{p.Dmin, p.Dmax} {
			begin := at + delay
			for own, want := range map[int64]bool{
				begin - p.Air - 1: true, begin - p.Air: true, begin - p.Air + 1: false,
				begin - 1: p.Air == 1, begin: false, begin + 1: p.Air == 1,
				begin + p.Air - 1: false, begin + p.Air: true, begin + p.Air + 1: true,
			} {
				l := newLine(t, p)
				l.passes(3, at-p.Slot/2)
				if own < at {
					l.stays(1, own)
				}
				l.comes(0, at, []byte("ab"), alike(2*p.Nodes, late(delay)))
				if own >= at {
					l.stays(1, own)
				}
				id := slices.IndexFunc(l.all, func(s sent) bool { return s.from == 0 })
				l.wantHeard(id, 1, 0, want)
				l.wantHeard(id, 1, 1, want)
				l.wantHeard(id, 2, 0, true)
				l.wantSame(0)
			}
		}
	}
}

func TestChannelsAndReceiversAreApart(t *testing.T) {
	l := newLine(t, slow)
	fates := alike(8, late(0))
	fates[1], fates[4+2] = late(30), late(30) // node 1 on channel 0, and node 2 on channel 1, have it later
	l.comes(0, 10000, []byte("ab"), fates)
	l.stays(2, 10005)
	l.stays(2, 10049)
	l.stays(1, 10049)
	l.wantHeard(0, 1, 0, false)
	l.wantHeard(0, 1, 1, true)
	l.wantHeard(0, 2, 0, false)
	l.wantHeard(0, 2, 1, false)
	l.wantHeard(0, 3, 0, true)
	l.wantHeard(0, 3, 1, true)
	l = newLine(t, slow)
	l.comes(0, 10000, []byte("ab"), fates)
	l.stays(2, 10000)
	l.wantHeard(0, 2, 0, false)
	l.wantHeard(0, 2, 1, true)
}

// TestOneOfManySendings: others' sendings, of the same time, do not keep
// anyone from hearing; one's own does, wherever it stands among them.
func TestOneOfManySendings(t *testing.T) {
	for place := range 12 {
		l := newLine(t, four)
		l.passes(0, 100)
		for n := range 12 {
			from := 2 + n%2
			if n == place {
				from = 1
			}
			l.stays(from, 101)
			l.wantHeard(0, 1, 0, n < place)
		}
		l.wantSame(0)
	}
}

// TestTheSendersOwnSendings: they are no matter to others.
func TestTheSendersOwnSendings(t *testing.T) {
	l := newLine(t, slow)
	l.comes(0, 10000, []byte("ab"), alike(8, late(10)))
	for at := int64(10000); at < 10060; at += 3 {
		l.stays(0, at)
	}
	for receiver := range 4 {
		l.wantHeard(0, receiver, 0, receiver != 0)
		l.wantHeard(0, receiver, 1, receiver != 0)
	}
	l.wantSame(0)
}

func TestFree(t *testing.T) {
	for _, p := range plans() {
		half := p.Slot / 2
		l := newLine(t, p)
		for _, at := range []int64{0, 1, half - 1, half, half + 1, lastTime - 1, lastTime} {
			l.wantFree(at, true) // ahead of any sending
		}
		for _, at := range farTimes {
			l.wantFree(at, false)
		}
		l.passes(0, 9000)
		l.stays(1, 9001)
		for at, want := range map[int64]bool{
			0: false, 8999: false, 9000: false, 9001: false, 9000 - half: false, 9000 - p.Slot: false,
			9000 + half - 1: false, 9000 + half: true, 9000 + half + 1: true, 9001 + half: true, lastTime: true,
		} {
			l.wantFree(at, want)
		}
		for _, at := range l.times() {
			l.wantFree(at, l.free(at))
		}
		l.passes(2, 9000+half)
		l.wantFree(9000+half, false)
		l.wantFree(9000+2*half, true)
		l.passes(2, lastTime)
		for _, at := range l.times() {
			l.wantFree(at, false)
		}
	}
}

func TestFreeIsWhetherASendingPasses(t *testing.T) {
	r := rand.New(rand.NewSource(121))
	for _, p := range plans() {
		l := newLine(t, p)
		at := int64(0)
		for range 200 {
			free := l.Free(at)
			if _, passed, err := l.Send(r.Intn(p.Nodes), at, nil, nil); passed != free || err != api.OK {
				t.Errorf("free at %d: %t, passed: %t, error %d", at, free, passed, err)
			}
			at += someStep(r, p)
		}
	}
}

// P12.3

func TestWhatIsHandedInIsOnlyReadAndNotKept(t *testing.T) {
	r := rand.New(rand.NewSource(122))
	for _, p := range plans() {
		l := newLine(t, p)
		at := int64(0)
		for range 30 {
			raw, fates := []byte("abcdef")[:r.Intn(7)], someFates(r, p)
			sameRaw, sameFates := slices.Clone(raw), slices.Clone(fates)
			l.comes(r.Intn(p.Nodes), at, raw, fates)
			if !slices.Equal(raw, sameRaw) || !slices.Equal(fates, sameFates) {
				t.Errorf("handed in, and changed: %v, %v; was %v, %v", raw, fates, sameRaw, sameFates)
			}
			for n := range raw {
				raw[n] ^= 255
			}
			for n := range fates {
				fates[n] = api.Fate{Delay: -7, Lost: !fates[n].Lost, Cut: !fates[n].Cut}
			}
			_ = append(raw, 7)
			_ = append(fates, api.Fate{Delay: -7})
			l.wantSame(0)
			at += someStep(r, p)
		}
	}
	q := four
	if _, err := bus.New(q); err != api.OK || q != four {
		t.Errorf("a plan, handed in and changed: %+v", q)
	}
}

func TestWhatIsAnsweredIsNewMemory(t *testing.T) {
	r := rand.New(rand.NewSource(123))
	for _, p := range plans() {
		l := busy(t, r, p, 20)
		for id := range l.Len() {
			due := l.Due(id)
			for n := range due {
				due[n] = api.Due{Receiver: -7, Channel: -7, At: -7}
			}
			_ = append(due, api.Due{})
			for receiver := range p.Nodes {
				for channel := range 2 {
					h, _ := l.Take(id, receiver, channel)
					for n := range h.Bytes {
						h.Bytes[n] ^= 255
					}
					_ = append(h.Bytes, 7, 7, 7)
				}
			}
		}
		l.wantSame(0)
	}
}

func TestBusesAreApart(t *testing.T) {
	a, b := newLine(t, four), newLine(t, slow)
	c := newLine(t, four)
	a.passes(0, 100)
	b.passes(1, 50)
	a.stays(1, 200)
	b.stays(2, 1049)
	b.passes(0, 1050)
	for _, l := range []*line{a, b, c} {
		l.wantSame(0)
	}
	c.passes(3, 0)
	c.wantSame(0)
}

// P12.4

// wantApart wants that no two frames are there at one node on one channel at
// one time.
func wantApart(t *testing.T, l *line) {
	t.Helper()
	type where struct{ receiver, channel int }
	over := map[where]int64{} // when the last one is
	for id := range l.Len() {
		for _, due := range l.Due(id) {
			at := where{due.Receiver, due.Channel}
			if last, is := over[at]; is && due.At-l.plan.Air < last {
				t.Errorf("the frame of %d begins at %+v at %d, the last one is over at %d", id, at, due.At-l.plan.Air, last)
			}
			over[at] = due.At
		}
	}
}

func TestTheLeastDelayBehindTheGreatest(t *testing.T) {
	for _, p := range plans() {
		half := p.Slot / 2
		l := newLine(t, p)
		for n := range int64(20) {
			delay := p.Dmax
			if n%2 == 1 {
				delay = p.Dmin
			}
			l.comes(int(n)%2, n*half, []byte("ab"), alike(2*p.Nodes, late(delay)))
			l.wantHeard(int(n), 2, 0, true)
			l.wantHeard(int(n), 3, 1, true)
		}
		wantApart(t, l)
		l.wantSame(0)
	}
}

func TestFramesNeverOverlap(t *testing.T) {
	r := rand.New(rand.NewSource(124))
	for _, p := range plans() {
		for range 10 {
			wantApart(t, busy(t, r, p, 60))
		}
	}
}

func TestWhetherASendingPassesHangsOnTimesAlone(t *testing.T) {
	r := rand.New(rand.NewSource(125))
	for _, p := range plans() {
		l := busy(t, r, p, 60)
		others := newLine(t, p)
		for id, s := range l.all {
			raw := make([]byte, r.Intn(9))
			_, passed, err := others.Send(r.Intn(p.Nodes), s.at, raw, someFates(r, p))
			if passed != l.passings()[id] || err != api.OK {
				t.Errorf("sending %d at %d passed: %t, error %d; other ones did not so", id, s.at, passed, err)
			}
		}
	}
}

func TestANodeDoesNotHearItself(t *testing.T) {
	r := rand.New(rand.NewSource(126))
	for _, p := range plans() {
		l := busy(t, r, p, 40)
		for id, s := range l.all {
			for channel := range 2 {
				l.wantHeard(id, s.from, channel, false)
			}
			if slices.ContainsFunc(l.Due(id), func(d api.Due) bool { return d.Receiver == s.from }) {
				t.Errorf("the frame of %d is there at its sender", id)
			}
		}
	}
}

func TestWhatIsHeardHasTheSendingsBytes(t *testing.T) {
	r := rand.New(rand.NewSource(127))
	heard, cut := 0, 0
	for _, p := range plans() {
		l := busy(t, r, p, 60)
		for id, s := range l.all {
			for receiver := range p.Nodes {
				for channel := range 2 {
					h, is := l.Take(id, receiver, channel)
					switch {
					case !is:
					case !l.fate(id, receiver, channel).Cut:
						heard++
						if !bytes.Equal(h.Bytes, s.raw) || h.From != s.from {
							t.Errorf("heard of %d: %+v, was %q", id, h, s.raw)
						}
					case len(s.raw) > 0:
						cut++
						if !bytes.Equal(h.Bytes, s.raw[:len(s.raw)-1]) {
							t.Errorf("heard of %d, cut: %+v, was %q", id, h, s.raw)
						}
					}
				}
			}
		}
	}
	if heard < 1000 || cut < 100 {
		t.Errorf("%d whole ones and %d cut ones are too few", heard, cut)
	}
}

func TestManySendingsByTheWords(t *testing.T) {
	r := rand.New(rand.NewSource(128))
	for _, p := range plans() {
		for range 3 {
			l := busy(t, r, p, 50)
			l.wantSame(0)
			for _, at := range l.times() {
				l.wantFree(at, l.free(at))
			}
		}
	}
}

// TestTakeByAllThatCame: what is heard is asked anew behind each sending.
func TestTakeByAllThatCame(t *testing.T) {
	r := rand.New(rand.NewSource(129))
	turned := 0
	for _, p := range plans() {
		l := newLine(t, p)
		at := int64(0)
		for range 20 {
			l.comes(r.Intn(p.Nodes), at, []byte("ab"), someFates(r, p))
			id := l.Len() - 1
			before := l.hears(id)
			for range 3 {
				at += r.Int63n(p.Dmax + p.Air + 1)
				l.comes(r.Intn(p.Nodes), at, nil, someFates(r, p))
				l.wantSame(id)
			}
			if l.hears(id) < before {
				turned++
			}
			at += p.Slot
		}
	}
	if turned < 20 {
		t.Errorf("%d frames that were not heard any more are too few", turned)
	}
}

// hears is at how many nodes, and on how many channels, a frame is heard.
func (l *line) hears(id int) (many int) {
	for receiver := range l.plan.Nodes {
		for channel := range 2 {
			if _, is := l.Take(id, receiver, channel); is {
				many++
			}
		}
	}
	return many
}
