package script_test

import (
	"bytes"
	"encoding/hex"
	"math"
	"math/rand"
	"slices"
	"strings"
	"testing"

	"vespers/api"
	"vespers/plan"
	"vespers/script"
)

// far are numbers that nothing in a script may be.
var far = []int64{
	math.MinInt64, math.MinInt64 + 1, -1 << 62, -1 << 33, -1 << 32, -1<<32 + 1, -1 << 31, -1 << 17, -2,
	1<<31 + 1, 1<<32 - 1, 1 << 32, 1<<32 + 1, 1<<32 + 65536, 1 << 33, 1 << 62, math.MaxInt64 - 1, math.MaxInt64,
}

// four is the least plan of four nodes: its clocks do not drift by as much as
// a script can say.
var four = api.Plan{
	Nodes: 4, K: 1, Slot: 512, SendOff: 248, Window: 96, Air: 1, Dmin: 1, Dmax: 3, Rho: 100000, Pi: 88, Cap: 64,
	Delta: 10416, Queue: 2, Burst: 1, Payload: 8, Horizon: 81920,
}

// fitted is the least plan, with a horizon, for some wishes.
func fitted(nodes, k int, rho, dmin, dmax, horizon int64) api.Plan {
	p, err := plan.Fit(api.Plan{Nodes: nodes, K: k, Air: 3, Dmin: dmin, Dmax: dmax, Rho: rho, Queue: 3, Burst: 2, Payload: 8})
	if err != api.OK {
		panic("no plan fits")
	}
	p.Horizon = max(p.Horizon, horizon)
	return p
}

// long has the longest slots, delays that are far apart, and the greatest
// horizon.
func long() api.Plan {
	p := fitted(16, 7, 1<<20, 0, 30000, api.MaxHorizon)
	p.Slot, p.Pi, p.Window, p.Cap, p.SendOff = 1<<20, 150500, 180600, 120400, 451600
	p.Delta = 64 * 16 << 20
	return p
}

// plans are of 4 nodes, of 16, and of numbers that no bytes are a multiple of;
// of Rhos that 65536 is a multiple of, and is not, and that are greater; and
// with delays that are all the same.
func plans() []api.Plan {
	return []api.Plan{
		four,
		fitted(4, 1, 1024, 1, 3, 0),                 // d 64
		fitted(4, 0, 1000, 2, 40, 1<<30),            // d 65
		fitted(4, 1, 529, 7, 7, 0),                  // d 123
		fitted(5, 1, 65536, 0, 1, 123457),           // d 1
		fitted(7, 2, 3000, 2, 1000, 9999999),        // d 21
		fitted(6, 1, 65537, 5, 6, 0),                // d 0
		fitted(16, 7, 4096, 300, 300, 0),            // d 16
		fitted(16, 3, 5000, 0, 255, api.MaxHorizon), // d 13
		long(),
	}
}

// broken are plans that may not be: that of zeros, and one for each condition
// that alone does not hold, or holds first of all not.
func broken() []api.Plan {
	all := []api.Plan{{}}
	for _, turn := range []func(p *api.Plan){
		func(p *api.Plan) { p.K = 2 },
		func(p *api.Plan) { p.Nodes = 3 },
		func(p *api.Plan) { p.Nodes = 17 },
		func(p *api.Plan) { p.Air = 0 },
		func(p *api.Plan) { p.Dmin = 4 },
		func(p *api.Plan) { p.Slot = 0 },
		func(p *api.Plan) { p.Rho = 0 },
		func(p *api.Plan) { p.Pi-- },
		func(p *api.Plan) { p.Window-- },
		func(p *api.Plan) { p.Cap-- },
		func(p *api.Plan) { p.SendOff-- },
		func(p *api.Plan) { p.Slot-- },
		func(p *api.Plan) { p.Queue = 0 },
		func(p *api.Plan) { p.Payload = 33 },
		func(p *api.Plan) { p.Delta-- },
		func(p *api.Plan) { p.Horizon-- },
		func(p *api.Plan) { p.Horizon = -1 },
		func(p *api.Plan) { p.Horizon = api.MaxHorizon + 1 },
	} {
		p := four
		turn(&p)
		all = append(all, p)
	}
	return all
}

// plain is a script of exact clocks, of nodes that are never switched on.
func plain(p api.Plan) (s api.Script) {
	for range p.Nodes {
		s.Rates = append(s.Rates, api.Rate{Num: 65536, Den: 65536})
		s.On = append(s.On, -1)
	}
	return s
}

// brief is a script that has two of each.
func brief(p api.Plan) api.Script {
	s := plain(p)
	s.On[0], s.On[1] = 0, roundOf(p)
	s.Delays = []int64{p.Dmax - p.Dmin, 0}
	s.Happenings = []api.Happening{{Kind: api.HapSubmit, Node: 1, Time: 77}, {Kind: api.HapSubmit, Node: 2, Time: 5, Payload: []byte("ab")}}
	s.Faults = []api.Fault{{Sender: 1, Nth: 2, Receiver: 3, Channels: 1}, {Sender: 3, Nth: 0, Receiver: p.Nodes, Channels: 2, Cut: true}}
	return s
}

// upTo is a number from 0 to the most, which are both told often.
func upTo(r *rand.Rand, most int64) int64 {
	switch r.Intn(4) {
	case 0:
		return 0
	case 1:
		return most
	}
	return r.Int63n(most + 1)
}

// someBytes are as many as there may be, or fewer.
func someBytes(r *rand.Rand, most int64) []byte {
	b := make([]byte, upTo(r, most))
	r.Read(b)
	return b
}

// someScript is any script that may be.
func someScript(r *rand.Rand, p api.Plan) (s api.Script) {
	d, last := driftOf(p), int64(p.Nodes)-1
	for range p.Nodes {
		s.Rates = append(s.Rates, api.Rate{Num: 65536 - d + upTo(r, 2*d), Den: 65536})
		s.On = append(s.On, upTo(r, 4*roundOf(p)+1)-1)
	}
	for range upTo(r, 256) {
		s.Delays = append(s.Delays, upTo(r, p.Dmax-p.Dmin))
	}
	for range upTo(r, 64) {
		h := api.Happening{Kind: r.Intn(3), Node: int(upTo(r, last)), Time: upTo(r, p.Horizon)}
		if h.Kind == api.HapSubmit {
			h.Payload = someBytes(r, 255)
		}
		s.Happenings = append(s.Happenings, h)
	}
	for range upTo(r, 64) {
		s.Faults = append(s.Faults, api.Fault{
			Sender: int(upTo(r, last)), Nth: int(upTo(r, 65535)), Receiver: int(upTo(r, last+1)), Channels: 1 + r.Intn(3), Cut: r.Intn(2) == 1,
		})
	}
	return s
}

// fullest is a script that has as many of each as there may be, with the
// greatest numbers and the longest payloads.
func fullest(p api.Plan) api.Script {
	s := plain(p)
	for n := range p.Nodes {
		s.Rates[n].Num, s.On[n] = 65536+driftOf(p), 4*roundOf(p)
	}
	for range 256 {
		s.Delays = append(s.Delays, p.Dmax-p.Dmin)
	}
	for range 64 {
		s.Happenings = append(s.Happenings, api.Happening{Kind: 2, Node: p.Nodes - 1, Time: p.Horizon, Payload: bytes.Repeat([]byte{255}, 255)})
		s.Faults = append(s.Faults, api.Fault{Sender: p.Nodes - 1, Nth: 65535, Receiver: p.Nodes, Channels: 3, Cut: true})
	}
	return s
}

// number is one of a brief script's numbers: how it is set, and from what to
// what it may be.
type number struct {
	name        string
	set         func(s *api.Script, n int64)
	least, most int64
}

func numbers(p api.Plan) []number {
	last, nodes, d := p.Nodes-1, int64(p.Nodes), driftOf(p)
	return []number{
		{"the first Num", func(s *api.Script, n int64) { s.Rates[0].Num = n }, 65536 - d, 65536 + d},
		{"the last Num", func(s *api.Script, n int64) { s.Rates[last].Num = n }, 65536 - d, 65536 + d},
		{"the first Den", func(s *api.Script, n int64) { s.Rates[0].Den = n }, 65536, 65536},
		{"the last Den", func(s *api.Script, n int64) { s.Rates[last].Den = n }, 65536, 65536},
		{"the first On", func(s *api.Script, n int64) { s.On[0] = n }, -1, 4 * roundOf(p)},
		{"the last On", func(s *api.Script, n int64) { s.On[last] = n }, -1, 4 * roundOf(p)},
		{"the first delay", func(s *api.Script, n int64) { s.Delays[0] = n }, 0, p.Dmax - p.Dmin},
		{"the last delay", func(s *api.Script, n int64) { s.Delays[1] = n }, 0, p.Dmax - p.Dmin},
		{"Kind", func(s *api.Script, n int64) { s.Happenings[0].Kind = int(n) }, 0, 2},
		{"the first Node", func(s *api.Script, n int64) { s.Happenings[0].Node = int(n) }, 0, nodes - 1},
		{"the last Node", func(s *api.Script, n int64) { s.Happenings[1].Node = int(n) }, 0, nodes - 1},
		{"the first Time", func(s *api.Script, n int64) { s.Happenings[0].Time = n }, 0, p.Horizon},
		{"the last Time", func(s *api.Script, n int64) { s.Happenings[1].Time = n }, 0, p.Horizon},
		{"the first Sender", func(s *api.Script, n int64) { s.Faults[0].Sender = int(n) }, 0, nodes - 1},
		{"the last Sender", func(s *api.Script, n int64) { s.Faults[1].Sender = int(n) }, 0, nodes - 1},
		{"the first Nth", func(s *api.Script, n int64) { s.Faults[0].Nth = int(n) }, 0, 65535},
		{"the last Nth", func(s *api.Script, n int64) { s.Faults[1].Nth = int(n) }, 0, 65535},
		{"the first Receiver", func(s *api.Script, n int64) { s.Faults[0].Receiver = int(n) }, 0, nodes},
		{"the last Receiver", func(s *api.Script, n int64) { s.Faults[1].Receiver = int(n) }, 0, nodes},
		{"the first Channels", func(s *api.Script, n int64) { s.Faults[0].Channels = int(n) }, 1, 3},
		{"the last Channels", func(s *api.Script, n int64) { s.Faults[1].Channels = int(n) }, 1, 3},
	}
}

// brokenScripts are scripts that may not be, each by one thing alone.
func brokenScripts(p api.Plan) []api.Script {
	all := []api.Script{{}}
	with := func(turn func(s *api.Script)) {
		s := brief(p)
		turn(&s)
		all = append(all, s)
	}
	for _, x := range numbers(p) {
		for _, n := range append(slices.Clone(far), x.least-1, x.most+1) {
			with(func(s *api.Script) { x.set(s, n) })
		}
	}
	for _, kind := range []int{0, 1, 3} {
		with(func(s *api.Script) { s.Happenings[1].Kind = kind }) // its payload is of a submission
	}
	for _, long := range []int{256, 257, 512, 65536} {
		with(func(s *api.Script) { s.Happenings[0].Payload = make([]byte, long) })
	}
	full := fullest(p)
	with(func(s *api.Script) { s.Rates = nil })
	with(func(s *api.Script) { s.Rates = s.Rates[1:] })
	with(func(s *api.Script) { s.Rates = append(s.Rates, s.Rates[0]) })
	with(func(s *api.Script) { s.On = nil })
	with(func(s *api.Script) { s.On = s.On[1:] })
	with(func(s *api.Script) { s.On = append(s.On, -1) })
	with(func(s *api.Script) { s.Rates, s.On = s.Rates[1:], s.On[1:] })
	with(func(s *api.Script) { s.Rates, s.On = append(s.Rates, s.Rates[0]), append(s.On, -1) })
	with(func(s *api.Script) { s.Delays = append(full.Delays, 0) })
	with(func(s *api.Script) { s.Delays = make([]int64, 257*2) })
	with(func(s *api.Script) { s.Happenings = append(full.Happenings, api.Happening{}) })
	with(func(s *api.Script) { s.Happenings = make([]api.Happening, 256) })
	with(func(s *api.Script) { s.Faults = append(full.Faults, api.Fault{Channels: 1}) })
	return all
}

// callsOf are arrivals that may be asked for.
func callsOf(p api.Plan) (all []arrival) {
	for _, nth := range []int{0, 2, 65535, 65536, math.MaxInt32} {
		for _, sender := range []int{0, 1, p.Nodes - 1} {
			for _, receiver := range []int{0, 3, p.Nodes - 1} {
				all = append(all, arrival{sender, nth, receiver, 0}, arrival{sender, nth, receiver, 1})
			}
		}
	}
	return all
}

// wantFine wants of a script all that the words say of one that may be.
func wantFine(t *testing.T, p api.Plan, s api.Script) {
	t.Helper()
	if !mayBe(p, s) {
		t.Errorf("may not be, by the words: %s", text(s))
	}
	if err := script.Check(p, s); err != api.OK {
		t.Errorf("error %d of %s", err, text(s))
	}
	b, err := script.Encode(p, s)
	if want := written(p, s); err != api.OK || !bytes.Equal(b, want) {
		t.Errorf("% x, error %d; want % x", b, err, want)
	}
	if back, err := script.Decode(p, b); err != api.OK || !alike(back, s) || !script.Same(back, s) {
		t.Errorf("read, error %d: %s; want %s", err, text(back), text(s))
	}
	for _, a := range callsOf(p) {
		wantArrival(t, p, s, a)
	}
}

// wantRefused wants that a script, or a plan, may not be.
func wantRefused(t *testing.T, p api.Plan, s api.Script) {
	t.Helper()
	if err := script.Check(p, s); err != api.ErrScript {
		t.Errorf("error %d, want ErrScript, of %s", err, text(s))
	}
	if b, err := script.Encode(p, s); err != api.ErrScript || len(b) != 0 {
		t.Errorf("% x, error %d, want ErrScript", b, err)
	}
	for _, a := range []arrival{{0, 0, 0, 0}, {1, 2, 3, 1}} {
		wantNoArrival(t, p, s, a)
	}
}

// wantSaid wants that bytes say the script that they say by the words.
func wantSaid(t *testing.T, p api.Plan, b []byte) {
	t.Helper()
	wantSays(t, p, b, said(p, b))
}

// wantSays wants that bytes say a script.
func wantSays(t *testing.T, p api.Plan, b []byte, want api.Script) {
	t.Helper()
	s, err := script.Decode(p, b)
	if err != api.OK || !alike(s, want) {
		t.Errorf("%d bytes, error %d: %s; want %s", len(b), err, text(s), text(want))
	}
	if err := script.Check(p, s); err != api.OK {
		t.Errorf("error %d of %s", err, text(s))
	}
}

func wantArrival(t *testing.T, p api.Plan, s api.Script, a arrival) {
	t.Helper()
	delay, heard := delayOf(p, s, a), heardOf(p, s, a)
	if d := script.Delay(p, s, a.sender, a.nth, a.receiver, a.channel); d != delay || d < p.Dmin || d > p.Dmax {
		t.Errorf("delay of %+v: %d, want %d", a, d, delay)
	}
	if h := script.Heard(p, s, a.sender, a.nth, a.receiver, a.channel); h != heard {
		t.Errorf("heard of %+v: %d, want %d", a, h, heard)
	}
}

func wantNoArrival(t *testing.T, p api.Plan, s api.Script, a arrival) {
	t.Helper()
	if d := script.Delay(p, s, a.sender, a.nth, a.receiver, a.channel); d != 0 {
		t.Errorf("delay of %+v: %d, want 0", a, d)
	}
	if h := script.Heard(p, s, a.sender, a.nth, a.receiver, a.channel); h != api.HeardLost {
		t.Errorf("heard of %+v: %d, want HeardLost", a, h)
	}
}

// wantDelays wants the delays of arrivals.
func wantDelays(t *testing.T, p api.Plan, s api.Script, want map[arrival]int64) {
	t.Helper()
	for a, delay := range want {
		if d := script.Delay(p, s, a.sender, a.nth, a.receiver, a.channel); d != delay {
			t.Errorf("delay of %+v: %d, want %d", a, d, delay)
		}
	}
}

// wantHeard wants what is heard of arrivals.
func wantHeard(t *testing.T, p api.Plan, s api.Script, want map[arrival]int) {
	t.Helper()
	for a, heard := range want {
		if h := script.Heard(p, s, a.sender, a.nth, a.receiver, a.channel); h != heard {
			t.Errorf("heard of %+v by %+v: %d, want %d", a, s.Faults, h, heard)
		}
	}
}

// lost is a fault by which a frame is not heard, and cut one by which it lacks
// its last byte.
func lost(sender, nth, receiver, channels int) api.Fault {
	return api.Fault{Sender: sender, Nth: nth, Receiver: receiver, Channels: channels}
}

func cut(sender, nth, receiver, channels int) api.Fault {
	return api.Fault{Sender: sender, Nth: nth, Receiver: receiver, Channels: channels, Cut: true}
}

// hexed is bytes, written in hexadecimal digits with blanks between.
func hexed(t *testing.T, digits string) []byte {
	t.Helper()
	b, err := hex.DecodeString(strings.ReplaceAll(digits, " ", ""))
	if err != nil {
		t.Fatal(err)
	}
	return b
}

// The chapter's examples.

func TestExamples(t *testing.T) {
	for _, p := range plans() {
		var want api.Script
		for range p.Nodes {
			want.Rates = append(want.Rates, api.Rate{Num: 65536 - driftOf(p), Den: 65536})
			want.On = append(want.On, -1)
		}
		for _, none := range [][]byte{nil, {}} {
			wantSays(t, p, none, want)
		}
		s, _ := script.Decode(p, nil)
		for _, a := range callsOf(p) {
			wantDelays(t, p, s, map[arrival]int64{a: p.Dmin})
			wantHeard(t, p, s, map[arrival]int{a: api.HeardWhole})
		}
		wantRefused(t, p, api.Script{})
	}
}

func TestPlansOfTheseTests(t *testing.T) {
	drifts := []int64{0, 64, 65, 123, 1, 21, 0, 16, 13, 0}
	for n, p := range plans() {
		if fails := plan.Fails(p); fails != 0 || driftOf(p) != drifts[n] {
			t.Errorf("plan %d fails %d, d %d", n, fails, driftOf(p))
		}
	}
	for n, p := range broken() {
		if plan.Fails(p) == 0 {
			t.Errorf("broken plan %d fails nothing", n)
		}
	}
}

// P11.1

func TestLimits(t *testing.T) {
	if api.MaxDen != 65536 || api.MaxScript != 65536 || api.MaxDelays != 256 || api.MaxHappen != 64 || api.MaxFaults != 64 {
		t.Error("other limits than the chapter's")
	}
	if api.HapCrash != 0 || api.HapRestart != 1 || api.HapSubmit != 2 || api.HeardWhole != 0 || api.HeardCut != 1 || api.HeardLost != 2 {
		t.Error("other kinds than the chapter's")
	}
}

func TestScriptsThatMayBe(t *testing.T) {
	for _, p := range plans() {
		wantFine(t, p, plain(p))
		wantFine(t, p, brief(p))
		wantFine(t, p, fullest(p))
		for _, x := range numbers(p) {
			for _, n := range []int64{x.least, (x.least + x.most) / 2, x.most} {
				s := brief(p)
				x.set(&s, n)
				wantFine(t, p, s)
			}
		}
	}
}

func TestManyOfEachList(t *testing.T) {
	full := fullest(four)
	for _, many := range []int{0, 1, 2, 255, 256} {
		s := brief(four)
		s.Delays = full.Delays[:many]
		wantFine(t, four, s)
	}
	for _, many := range []int{0, 1, 2, 63, 64} {
		s := brief(four)
		s.Happenings = full.Happenings[:many]
		wantFine(t, four, s)
		s = brief(four)
		s.Faults = full.Faults[:many]
		wantFine(t, four, s)
		s.Happenings = nil
		wantFine(t, four, s)
	}
	s := plain(four)
	s.Delays, s.Happenings, s.Faults = []int64{}, []api.Happening{}, []api.Fault{}
	wantFine(t, four, s)
}

func TestPayloads(t *testing.T) {
	for _, long := range []int{0, 1, 2, 3, 127, 128, 254, 255} {
		s := brief(four)
		s.Happenings[0].Payload = bytes.Repeat([]byte{3, 2, 255, 0}, 64)[:long]
		wantFine(t, four, s)
		s.Happenings, s.Faults = s.Happenings[:1], nil
		wantFine(t, four, s)
	}
	for _, kind := range []int{api.HapCrash, api.HapRestart} {
		s := brief(four)
		s.Happenings[0].Kind, s.Happenings[0].Payload = kind, []byte{}
		wantFine(t, four, s)
		s.Happenings[0].Payload = []byte{0}
		wantRefused(t, four, s)
	}
}

func TestScriptsThatMayNotBe(t *testing.T) {
	for _, p := range plans() {
		for _, s := range brokenScripts(p) {
			if mayBe(p, s) {
				t.Fatalf("may be, by the words: %s", text(s))
			}
			wantRefused(t, p, s)
		}
	}
}

func TestScriptsOfAnotherPlan(t *testing.T) {
	for _, p := range plans() {
		for _, q := range plans() {
			for _, s := range []api.Script{plain(p), brief(p), fullest(p)} {
				if mayBe(q, s) {
					wantFine(t, q, s)
				} else {
					wantRefused(t, q, s)
				}
			}
		}
	}
}

func TestPlansThatMayNotBe(t *testing.T) {
	for _, p := range broken() {
		for _, s := range []api.Script{{}, plain(four), brief(four), fullest(four), plain(p)} {
			wantRefused(t, p, s)
		}
		for _, b := range [][]byte{nil, {}, {1}, written(four, brief(four)), make([]byte, 65536), make([]byte, 65537)} {
			wantNotRead(t, p, b)
		}
	}
}

func wantNotRead(t *testing.T, p api.Plan, b []byte) {
	t.Helper()
	if s, err := script.Decode(p, b); err != api.ErrScript || !alike(s, api.Script{}) {
		t.Errorf("%d bytes, error %d: %s; want ErrScript", len(b), err, text(s))
	}
}

// shown is a script of the least plan of four nodes, and shownBytes are its
// bytes, worked out by hand: R is 2048, d 0.
func shown() api.Script {
	return api.Script{
		Rates:  []api.Rate{{Num: 65536, Den: 65536}, {Num: 65536, Den: 65536}, {Num: 65536, Den: 65536}, {Num: 65536, Den: 65536}},
		On:     []int64{0, 8192, -1, 600},
		Delays: []int64{2, 0, 1},
		Happenings: []api.Happening{
			{Kind: api.HapSubmit, Node: 1, Time: 81920, Payload: []byte("ab")},
			{Kind: api.HapCrash, Node: 3, Time: 258},
			{Kind: api.HapRestart, Node: 0, Time: 0},
			{Kind: api.HapSubmit, Node: 2, Time: 65536},
		},
		Faults: []api.Fault{
			{Sender: 2, Nth: 258, Receiver: 4, Channels: 3, Cut: true},
			{Sender: 0, Nth: 65535, Receiver: 1, Channels: 1},
		},
	}
}

const shownBytes = "00000000 00000001  00000000 00002001  00000000 00000000  00000000 00000259" +
	"0003 00000002 00000000 00000001" +
	"02 01 00014000 02 6162  00 03 00000102  01 00 00000000  02 02 00010000 00" +
	"03 02 0102 04 02 01  03 00 FFFF 01 00 00"

func TestBytesByHand(t *testing.T) {
	want := hexed(t, shownBytes)
	b, err := script.Encode(four, shown())
	if err != api.OK || !bytes.Equal(b, want) {
		t.Errorf("% x, error %d; want % x", b, err, want)
	}
	wantSays(t, four, want, shown())
	wantFine(t, four, shown())
}

func TestFoldedByHand(t *testing.T) {
	// Each number is the shown one and what it is folded by (3 delays: 260;
	// kinds: 4, 8, 252), and happenings stand behind faults.
	b := hexed(t, "00000001 00002003  FFFFFFFF 00004003  00000007 00002002  80000000 0000225B"+
		"0104 00000005 00000003 00000004"+
		"07 06 0102 09 05 03  FF 04 FFFF 06 FF FE"+
		"06 05 00028001 02 6162  04 07 00014103  FD FC 00014001  FE FE 00024001 00")
	wantSays(t, four, b, shown())
	back, err := script.Encode(four, shown())
	if err != api.OK || !bytes.Equal(back, hexed(t, shownBytes)) {
		t.Errorf("% x, error %d", back, err)
	}
}

func TestRatesByHand(t *testing.T) {
	p := plans()[1] // d 64
	for folded, num := range map[string]int64{
		"00000000": 65472, "00000001": 65473, "00000040": 65536, "0000007F": 65599, "00000080": 65600,
		"00000081": 65472, "00000101": 65600, "00000102": 65472, "7FFFFFFF": 65472 + 0x7fffffff%129, "FFFFFFFF": 65472 + 0xffffffff%129,
	} {
		s, err := script.Decode(p, hexed(t, folded))
		if err != api.OK || s.Rates[0] != (api.Rate{Num: num, Den: 65536}) || s.Rates[1].Num != 65472 {
			t.Errorf("%s, error %d: %v, want %d", folded, err, s.Rates, num)
		}
	}
}

// place is a number in a script's bytes: where it stands, how many bytes it
// has, what it is folded by, and what it is in the script.
type place struct {
	name      string
	at, width int
	by, least int64
	get       func(s api.Script) int64
}

// places are those of a brief script, each behind the one ahead of it.
func places(p api.Plan) []place {
	n, nodes := 8*p.Nodes, int64(p.Nodes)
	last := p.Nodes - 1
	return []place{
		{"the first rate", 0, 4, 2*driftOf(p) + 1, 65536 - driftOf(p), func(s api.Script) int64 { return s.Rates[0].Num }},
		{"the first On", 4, 4, 4*roundOf(p) + 2, -1, func(s api.Script) int64 { return s.On[0] }},
		{"the last rate", n - 8, 4, 2*driftOf(p) + 1, 65536 - driftOf(p), func(s api.Script) int64 { return s.Rates[last].Num }},
		{"the last On", n - 4, 4, 4*roundOf(p) + 2, -1, func(s api.Script) int64 { return s.On[last] }},
		{"the first delay", n + 2, 4, p.Dmax - p.Dmin + 1, 0, func(s api.Script) int64 { return s.Delays[0] }},
		{"the last delay", n + 6, 4, p.Dmax - p.Dmin + 1, 0, func(s api.Script) int64 { return s.Delays[1] }},
		{"Node", n + 11, 1, nodes, 0, func(s api.Script) int64 { return int64(s.Happenings[0].Node) }},
		{"Time", n + 12, 4, p.Horizon + 1, 0, func(s api.Script) int64 { return s.Happenings[0].Time }},
		{"Sender", n + 27, 1, nodes, 0, func(s api.Script) int64 { return int64(s.Faults[0].Sender) }},
		{"Nth", n + 28, 2, 65536, 0, func(s api.Script) int64 { return int64(s.Faults[0].Nth) }},
		{"Receiver", n + 30, 1, nodes + 1, 0, func(s api.Script) int64 { return int64(s.Faults[0].Receiver) }},
		{"Channels", n + 31, 1, 3, 1, func(s api.Script) int64 { return int64(s.Faults[0].Channels) }},
		{"Cut", n + 32, 1, 2, 0, func(s api.Script) int64 { return oneIf(s.Faults[0].Cut) }},
	}
}

func oneIf(is bool) int64 {
	if is {
		return 1
	}
	return 0
}

// put writes a number over bytes.
func put(b []byte, at, width int, n int64) {
	for w := range width {
		b[at+width-1-w] = byte(n >> (8 * w))
	}
}

func TestNumbersAreFolded(t *testing.T) {
	for _, p := range plans() {
		for _, x := range places(p) {
			top := int64(1)<<(8*x.width) - 1
			for _, n := range []int64{0, 1, x.by - 1, x.by, x.by + 1, 2*x.by - 1, 2 * x.by, top / x.by * x.by, top/x.by*x.by - 1, top / 2, top/2 + 1, top - 1, top} {
				if n < 0 || n > top {
					continue
				}
				b := written(p, brief(p))
				put(b, x.at, x.width, n)
				s, err := script.Decode(p, b)
				if err != api.OK || x.get(s) != x.least+n%x.by {
					t.Errorf("%s of %d folded by %d, error %d: %d", x.name, n, x.by, err, x.get(s))
				}
				wantSays(t, p, b, said(p, b))
			}
		}
	}
}

func TestHowManyDelaysAreFolded(t *testing.T) {
	for _, p := range plans()[:2] {
		for _, n := range []int{0, 1, 2, 255, 256, 257, 258, 512, 513, 514, 515, 32767, 32768, 65278, 65279, 65534, 65535} {
			b := make([]byte, 8*p.Nodes+2)
			put(b, 8*p.Nodes, 2, int64(n))
			s, err := script.Decode(p, b)
			if err != api.OK || len(s.Delays) != n%257 || slices.ContainsFunc(s.Delays, func(d int64) bool { return d != 0 }) {
				t.Errorf("%d, error %d: %v", n, err, s.Delays)
			}
			wantSaid(t, p, append(b, bytes.Repeat([]byte{1, 2, 3}, 700)...))
		}
	}
}

func TestKindsAreFolded(t *testing.T) {
	for kind := range 256 {
		b := append(make([]byte, 34), byte(kind), 2, 0, 1, 2, 3, 1, 9)
		s, err := script.Decode(four, b)
		want := api.Script{Rates: s.Rates, On: s.On}
		switch kind % 4 {
		case 3: // and a crash of node 3, at no time, behind it
			want.Faults = []api.Fault{{Sender: 2, Nth: 1, Receiver: 2, Channels: 1, Cut: true}}
			want.Happenings = []api.Happening{{Kind: 1}}
		case 2:
			want.Happenings = []api.Happening{{Kind: 2, Node: 2, Time: 0x010203, Payload: []byte{9}}}
		default:
			want.Happenings = []api.Happening{{Kind: kind % 4, Node: 2, Time: 0x010203}, {Kind: 1, Node: 1}}
		}
		want.Happenings[0].Time %= 81921
		if err != api.OK || !alike(s, want) {
			t.Errorf("kind %d, error %d: %s; want %s", kind, err, text(s), text(want))
		}
	}
}

func TestBytesThatEnd(t *testing.T) {
	for _, p := range plans() {
		for _, s := range []api.Script{brief(p), fullest(p)} {
			b := written(p, s)
			for many := 0; many <= len(b); many += 1 + many/500 {
				wantSaid(t, p, b[:many])
			}
		}
	}
	b := written(four, shown())
	for many := range b {
		wantSaid(t, four, b[:many])
	}
}

func TestBytesThatEndByHand(t *testing.T) {
	ahead := strings.Repeat("00", 34)
	for _, one := range []struct {
		entries string
		want    api.Script
	}{
		{"", api.Script{}},
		{"00", api.Script{Happenings: []api.Happening{{}}}},
		{"01", api.Script{Happenings: []api.Happening{{Kind: 1}}}},
		{"02", api.Script{Happenings: []api.Happening{{Kind: 2}}}},
		{"03", api.Script{Faults: []api.Fault{{Channels: 1}}}},
		{"0303", api.Script{Faults: []api.Fault{{Sender: 3, Channels: 1}}}},
		{"030301", api.Script{Faults: []api.Fault{{Sender: 3, Nth: 256, Channels: 1}}}},
		{"03030101", api.Script{Faults: []api.Fault{{Sender: 3, Nth: 257, Channels: 1}}}},
		{"0303010104", api.Script{Faults: []api.Fault{{Sender: 3, Nth: 257, Receiver: 4, Channels: 1}}}},
		{"030301010402", api.Script{Faults: []api.Fault{{Sender: 3, Nth: 257, Receiver: 4, Channels: 3}}}},
		{"03030101040201", api.Script{Faults: []api.Fault{{Sender: 3, Nth: 257, Receiver: 4, Channels: 3, Cut: true}}}},
		{"0303010104020100", api.Script{Faults: []api.Fault{{Sender: 3, Nth: 257, Receiver: 4, Channels: 3, Cut: true}}, Happenings: []api.Happening{{}}}},
		{"0203", api.Script{Happenings: []api.Happening{{Kind: 2, Node: 3}}}},
		{"020300", api.Script{Happenings: []api.Happening{{Kind: 2, Node: 3}}}},
		{"02030001", api.Script{Happenings: []api.Happening{{Kind: 2, Node: 3, Time: 65536}}}},
		{"0203000101", api.Script{Happenings: []api.Happening{{Kind: 2, Node: 3, Time: 65792}}}},
		{"020300010101", api.Script{Happenings: []api.Happening{{Kind: 2, Node: 3, Time: 65793}}}},
		{"02030001010103", api.Script{Happenings: []api.Happening{{Kind: 2, Node: 3, Time: 65793}}}},
		{"0203000101010361", api.Script{Happenings: []api.Happening{{Kind: 2, Node: 3, Time: 65793, Payload: []byte("a")}}}},
		{"020300010101036162", api.Script{Happenings: []api.Happening{{Kind: 2, Node: 3, Time: 65793, Payload: []byte("ab")}}}},
		{"02030001010103616263", api.Script{Happenings: []api.Happening{{Kind: 2, Node: 3, Time: 65793, Payload: []byte("abc")}}}},
		{"0203000101010361626301", api.Script{Happenings: []api.Happening{{Kind: 2, Node: 3, Time: 65793, Payload: []byte("abc")}, {Kind: 1}}}},
		{"020300010101FF0300", api.Script{Happenings: []api.Happening{{Kind: 2, Node: 3, Time: 65793, Payload: []byte{3, 0}}}}},
		{"02030001010100", api.Script{Happenings: []api.Happening{{Kind: 2, Node: 3, Time: 65793}}}},
		{"0203000101010000", api.Script{Happenings: []api.Happening{{Kind: 2, Node: 3, Time: 65793}, {}}}},
		{"010300010101", api.Script{Happenings: []api.Happening{{Kind: 1, Node: 3, Time: 65793}}}},
		{"01030001010102", api.Script{Happenings: []api.Happening{{Kind: 1, Node: 3, Time: 65793}, {Kind: 2}}}},
	} {
		one.want.Rates, one.want.On = plain(four).Rates, plain(four).On
		wantSays(t, four, hexed(t, ahead+one.entries), one.want)
	}
}

func TestBytesThatEndAheadOfEntries(t *testing.T) {
	p := plans()[1] // d 64
	none := said(p, nil)
	rates := func(nums ...int64) api.Script {
		s := script.Copy(none)
		for n, num := range nums {
			s.Rates[n].Num = num
		}
		return s
	}
	wantSays(t, p, hexed(t, "01"), rates(65472+0x01000000%129))
	wantSays(t, p, hexed(t, "0000"), none)
	wantSays(t, p, hexed(t, "000001"), rates(65472+256%129))
	wantSays(t, p, hexed(t, "00000005"), rates(65477))
	on := rates(65477)
	on.On[0] = 255
	wantSays(t, p, hexed(t, "00000005 000001"), on)
	delays := func(all ...int64) api.Script {
		s := plain(four)
		s.Delays = all
		return s
	}
	ahead := strings.Repeat("00", 32)
	wantSays(t, four, hexed(t, ahead+"01"), delays(make([]int64, 256)...))
	wantSays(t, four, hexed(t, ahead+"0002"), delays(0, 0))
	wantSays(t, four, hexed(t, ahead+"0002 000001"), delays(256%3, 0))
	wantSays(t, four, hexed(t, ahead+"0002 00000002"), delays(2, 0))
	wantSays(t, four, hexed(t, ahead+"0002 00000002 01"), delays(2, 0x01000000%3))
	wantSays(t, four, hexed(t, ahead+"0002 00000002 00000001"), delays(2, 1))
}

func TestEntriesBeyondTheLimit(t *testing.T) {
	for _, p := range []api.Plan{four, long()} {
		ahead := written(p, plain(p))
		happening := func(n int) []byte { return []byte{2, 1, 0, 0, 0, byte(n), 3, 3, 2, 3} } // its payload looks like entries
		fault := func(n int) []byte { return []byte{3, 1, 0, byte(n), 2, 0, 1} }
		for _, many := range []struct{ happenings, faults int }{{64, 0}, {65, 0}, {65, 1}, {0, 64}, {0, 65}, {1, 65}, {64, 64}, {65, 64}, {64, 65}, {65, 65}, {100, 70}, {300, 300}} {
			var first, last, mixed []byte
			for n := range many.happenings {
				first = append(first, happening(n)...)
			}
			for n := range many.faults {
				last = append(last, fault(n)...)
			}
			for n := range max(many.happenings, many.faults) {
				if n < many.faults {
					mixed = append(mixed, fault(n)...)
				}
				if n < many.happenings {
					mixed = append(mixed, happening(n)...)
				}
			}
			want := plain(p)
			for n := range min(64, many.happenings) {
				want.Happenings = append(want.Happenings, api.Happening{Kind: 2, Node: 1, Time: int64(n), Payload: []byte{3, 2, 3}})
			}
			for n := range min(64, many.faults) {
				want.Faults = append(want.Faults, api.Fault{Sender: 1, Nth: n, Receiver: 2, Channels: 1, Cut: true})
			}
			wantSays(t, p, slices.Concat(ahead, first, last), want)
			wantSays(t, p, slices.Concat(ahead, last, first), want)
			wantSays(t, p, slices.Concat(ahead, mixed), want)
			wantFine(t, p, want)
		}
	}
}

func TestTheLastOfAListBehindTooManyOfTheOther(t *testing.T) {
	ahead := written(four, plain(four))
	happening, fault := hexed(t, "01 02 00000005"), hexed(t, "03 01 0007 04 02 01")
	want := plain(four)
	for range 64 {
		want.Happenings = append(want.Happenings, api.Happening{Kind: 1, Node: 2, Time: 5})
		want.Faults = append(want.Faults, cut(1, 7, 4, 3))
	}
	for _, more := range []int{1, 2, 100} {
		wantSays(t, four, slices.Concat(ahead, bytes.Repeat(happening, 63), bytes.Repeat(fault, 64+more), happening), want)
		wantSays(t, four, slices.Concat(ahead, bytes.Repeat(fault, 63), bytes.Repeat(happening, 64+more), fault), want)
		wantSays(t, four, slices.Concat(ahead, bytes.Repeat(fault, 64+more), bytes.Repeat(happening, 64+more), fault), want)
	}
}

func TestTheMostBytes(t *testing.T) {
	r := rand.New(rand.NewSource(111))
	for _, p := range plans() {
		b := make([]byte, 65538)
		for _, turn := range []func(){
			func() {},
			func() { r.Read(b) },
			func() { copy(b, written(p, plain(p))); copy(b[8*p.Nodes+2:], bytes.Repeat([]byte{0, 3}, 32768)) },
			func() { copy(b[8*p.Nodes+2:], bytes.Repeat([]byte{3}, 65536)) },
			func() { copy(b[8*p.Nodes+2:], bytes.Repeat([]byte{2, 0, 0, 0, 0, 0, 255, 3}, 8192)) },
		} {
			turn()
			wantSaid(t, p, b[:65535])
			wantSaid(t, p, b[:65536])
			wantNotRead(t, p, b[:65537])
			wantNotRead(t, p, b)
		}
		wantNotRead(t, p, make([]byte, 1<<20))
	}
}

func TestAScriptsBytesAreNeverTooMany(t *testing.T) {
	for _, p := range plans() {
		if b, err := script.Encode(p, fullest(p)); err != api.OK || len(b) != 8*p.Nodes+2+4*256+64*(7+255)+64*7 {
			t.Errorf("%d bytes, error %d", len(b), err)
		}
	}
}

// P11.2

func TestDelaysByHand(t *testing.T) {
	s := plain(four)
	wantDelays(t, four, s, map[arrival]int64{{0, 0, 0, 0}: 1, {3, 9, 3, 1}: 1, {1, math.MaxInt32, 2, 0}: 1})
	s.Delays = []int64{2}
	wantDelays(t, four, s, map[arrival]int64{{0, 0, 0, 0}: 3, {3, 9, 3, 1}: 3, {1, math.MaxInt32, 2, 0}: 3})
	s.Delays = []int64{0, 1, 2}
	wantDelays(t, four, s, map[arrival]int64{
		{0, 0, 0, 0}: 1, // the numbers are 0, 1, 2, 8, 32, 55
		{0, 0, 0, 1}: 2,
		{0, 0, 1, 0}: 3,
		{1, 0, 0, 0}: 3,
		{0, 1, 0, 0}: 3,
		{2, 1, 3, 1}: 2,
	})
	p := fitted(16, 3, 5000, 0, 255, 0)
	s = plain(p)
	for n := range int64(256) {
		s.Delays = append(s.Delays, n)
	}
	// The last number of all is one less than the 40th power of 2, which is
	// 1 more than a multiple of 255, and 2 more than one of 7.
	last := arrival{15, math.MaxInt32, 15, 1}
	wantDelays(t, p, s, map[arrival]int64{last: 255, {0, 0, 0, 0}: 0, {0, 0, 5, 1}: 11, {3, 0, 5, 1}: 107, {0, 7, 9, 1}: 19})
	s.Delays = s.Delays[:255]
	wantDelays(t, p, s, map[arrival]int64{last: 0, {7, 0, 15, 1}: 0, {7, 0, 15, 0}: 254})
	s.Delays = s.Delays[:7]
	wantDelays(t, p, s, map[arrival]int64{last: 1})
}

func TestEachDelay(t *testing.T) {
	r := rand.New(rand.NewSource(112))
	for _, p := range plans() {
		s := plain(p)
		for many := range 257 {
			if many > 0 {
				s.Delays = append(s.Delays, r.Int63n(p.Dmax-p.Dmin+1))
			}
			if many > 3 && many < 254 && many%23 != 0 {
				continue
			}
			for range 30 {
				wantArrival(t, p, s, arrival{r.Intn(p.Nodes), int(r.Int31()) >> r.Intn(32), r.Intn(p.Nodes), r.Intn(2)})
			}
			for _, a := range callsOf(p) {
				wantArrival(t, p, s, a)
			}
		}
	}
}

func TestHeardByHand(t *testing.T) {
	const asSent, less, none = api.HeardWhole, api.HeardCut, api.HeardLost
	at := arrival{1, 7, 2, 0}
	other := arrival{1, 7, 2, 1}
	for _, one := range []struct {
		faults      []api.Fault
		at0, other1 int
	}{
		{nil, asSent, asSent},
		{[]api.Fault{lost(1, 7, 2, 1)}, none, asSent},
		{[]api.Fault{lost(1, 7, 2, 2)}, asSent, none},
		{[]api.Fault{lost(1, 7, 2, 3)}, none, none},
		{[]api.Fault{cut(1, 7, 2, 1)}, less, asSent},
		{[]api.Fault{cut(1, 7, 2, 2)}, asSent, less},
		{[]api.Fault{cut(1, 7, 2, 3)}, less, less},
		{[]api.Fault{lost(1, 7, 4, 1)}, none, asSent},
		{[]api.Fault{cut(1, 7, 4, 2)}, asSent, less},
		{[]api.Fault{lost(1, 7, 4, 3)}, none, none},
		{[]api.Fault{cut(1, 7, 4, 3)}, less, less},
		{[]api.Fault{cut(1, 7, 2, 3), lost(1, 7, 2, 1)}, none, less},
		{[]api.Fault{lost(1, 7, 2, 1), cut(1, 7, 2, 3)}, none, less},
		{[]api.Fault{cut(1, 7, 4, 3), lost(1, 7, 2, 2)}, less, none},
		{[]api.Fault{cut(1, 7, 2, 2), lost(1, 7, 4, 3)}, none, none},
		{[]api.Fault{cut(1, 7, 2, 1), lost(1, 7, 2, 2)}, less, none},
		{[]api.Fault{cut(1, 7, 2, 1), cut(1, 7, 2, 1)}, less, asSent},
		{[]api.Fault{lost(0, 7, 2, 3), lost(1, 6, 2, 3), lost(1, 8, 2, 3), lost(1, 7, 1, 3), lost(1, 7, 3, 3), lost(2, 7, 4, 3)}, asSent, asSent},
		{[]api.Fault{lost(0, 7, 2, 3), lost(1, 6, 2, 3), cut(1, 7, 4, 2), lost(1, 7, 1, 3)}, asSent, less},
		{[]api.Fault{lost(2, 7, 1, 3), lost(7, 1, 2, 3)}[:1], asSent, asSent}, // sender and receiver turned
	} {
		s := plain(four)
		s.Faults = one.faults
		wantHeard(t, four, s, map[arrival]int{at: one.at0, other: one.other1})
	}
}

func TestAFaultOfOneFrame(t *testing.T) {
	for _, f := range []api.Fault{
		lost(0, 0, 0, 1), lost(3, 1, 3, 2), lost(1, 1, 4, 1), cut(2, 2, 4, 2), cut(2, 0, 1, 3), lost(0, 2, 4, 3), lost(3, 0, 0, 3),
	} {
		s := plain(four)
		s.Faults = []api.Fault{f}
		for nth := range 4 {
			for sender := range 4 {
				for receiver := range 4 {
					wantArrival(t, four, s, arrival{sender, nth, receiver, 0})
					wantArrival(t, four, s, arrival{sender, nth, receiver, 1})
				}
			}
		}
	}
}

func TestTheLastFrameThatAFaultHas(t *testing.T) {
	s := plain(four)
	s.Faults = []api.Fault{lost(1, 65535, 4, 3), cut(2, 0, 4, 3)}
	wantHeard(t, four, s, map[arrival]int{
		{1, 65535, 0, 0}: api.HeardLost, {1, 65534, 0, 0}: api.HeardWhole, {1, 65536, 0, 0}: api.HeardWhole, {1, 131071, 0, 0}: api.HeardWhole, {1, math.MaxInt32, 0, 0}: api.HeardWhole,
		{2, 0, 0, 1}: api.HeardCut, {2, 65536, 0, 1}: api.HeardWhole, {2, 1 << 30, 0, 1}: api.HeardWhole,
	})
}

func TestArrivalsAtTheirBounds(t *testing.T) {
	for _, p := range plans() {
		s := brief(p)
		last := p.Nodes - 1
		s.Faults = []api.Fault{cut(last, 65535, last, 3), lost(0, 0, 0, 3)}
		for _, a := range []arrival{{0, 0, 0, 0}, {last, 65535, last, 1}, {last, 0, 0, 0}, {0, math.MaxInt32, 0, 0}, {0, 0, last, 1}} {
			wantArrival(t, p, s, a)
			for _, n := range []int{math.MinInt, math.MinInt + 1, -1 << 62, -1 << 32, -1 << 31, -2, -1, p.Nodes, p.Nodes + 1, 1 << 8, 1 << 31, 1 << 32, 1<<32 + 1, 1 << 62, math.MaxInt - 1, math.MaxInt} {
				wantNoArrival(t, p, s, arrival{n, a.nth, a.receiver, a.channel})
				wantNoArrival(t, p, s, arrival{a.sender, a.nth, n, a.channel})
				if n < 0 || n > math.MaxInt32 {
					wantNoArrival(t, p, s, arrival{a.sender, n, a.receiver, a.channel})
				}
				if n != 0 && n != 1 {
					wantNoArrival(t, p, s, arrival{a.sender, a.nth, a.receiver, n})
				}
				wantNoArrival(t, p, s, arrival{n, n, n, n})
			}
			for _, channel := range []int{2, 3, 4, 64, 65, 256} {
				wantNoArrival(t, p, s, arrival{a.sender, a.nth, a.receiver, channel})
			}
		}
		wantNoArrival(t, p, s, arrival{0, math.MaxInt32 + 1, 0, 0})
	}
}

// others are scripts that differ from the brief one in one thing alone.
func others(p api.Plan) []api.Script {
	var all []api.Script
	with := func(turn func(s *api.Script)) {
		s := brief(p)
		turn(&s)
		all = append(all, s)
	}
	for _, x := range numbers(p) {
		for _, n := range append(slices.Clone(far), x.least-1, x.most+1) { // none is in the brief one
			with(func(s *api.Script) { x.set(s, n) })
		}
	}
	with(func(s *api.Script) { s.Rates[1].Num++ })
	with(func(s *api.Script) { s.Rates[1].Den-- })
	with(func(s *api.Script) { s.On[2]++ })
	with(func(s *api.Script) { s.Delays[0]++ })
	with(func(s *api.Script) { s.Delays[0], s.Delays[1] = s.Delays[1], s.Delays[0]+1 })
	with(func(s *api.Script) { s.Happenings[1].Kind = 1 })
	with(func(s *api.Script) { s.Happenings[0].Node = 2 })
	with(func(s *api.Script) { s.Happenings[1].Time++ })
	with(func(s *api.Script) { s.Happenings[1].Payload = []byte("aa") })
	with(func(s *api.Script) { s.Happenings[1].Payload = []byte("bb") })
	with(func(s *api.Script) { s.Happenings[1].Payload = []byte("a") })
	with(func(s *api.Script) { s.Happenings[1].Payload = []byte("ab\x00") })
	with(func(s *api.Script) { s.Happenings[1].Payload = nil })
	with(func(s *api.Script) { s.Happenings[0].Payload = []byte{0} })
	with(func(s *api.Script) { s.Happenings[0], s.Happenings[1] = s.Happenings[1], s.Happenings[0] })
	with(func(s *api.Script) { s.Faults[0].Cut = true })
	with(func(s *api.Script) { s.Faults[1].Cut = false })
	with(func(s *api.Script) { s.Faults[0].Nth++ })
	with(func(s *api.Script) { s.Faults[0], s.Faults[1] = s.Faults[1], s.Faults[0] })
	with(func(s *api.Script) { s.Rates = s.Rates[1:] })
	with(func(s *api.Script) { s.Rates = append(s.Rates, api.Rate{}) })
	with(func(s *api.Script) { s.On = s.On[:p.Nodes-1] })
	with(func(s *api.Script) { s.On = append(s.On, 0) })
	with(func(s *api.Script) { s.Delays = nil })
	with(func(s *api.Script) { s.Delays = s.Delays[:1] })
	with(func(s *api.Script) { s.Delays = append(s.Delays, 0) })
	with(func(s *api.Script) { s.Happenings = nil })
	with(func(s *api.Script) { s.Happenings = s.Happenings[:1] })
	with(func(s *api.Script) { s.Happenings = append(s.Happenings, api.Happening{}) })
	with(func(s *api.Script) { s.Faults = nil })
	with(func(s *api.Script) { s.Faults = s.Faults[:1] })
	with(func(s *api.Script) { s.Faults = append(s.Faults, api.Fault{}) })
	return append(all, api.Script{})
}

func wantSame(t *testing.T, a, b api.Script, want bool) {
	t.Helper()
	if script.Same(a, b) != want || script.Same(b, a) != want {
		t.Errorf("same: %t, want it %t:\n%s\n%s", !want, want, text(a), text(b))
	}
}

func TestSame(t *testing.T) {
	for _, p := range plans() {
		wantSame(t, brief(p), brief(p), true)
		wantSame(t, plain(p), plain(p), true)
		wantSame(t, fullest(p), fullest(p), true)
		wantSame(t, plain(p), brief(p), false)
		wantSame(t, fullest(p), brief(p), false)
		again := others(p)
		for n, s := range others(p) {
			wantSame(t, brief(p), s, false)
			wantSame(t, s, again[n], true)
			wantSame(t, s, script.Copy(s), true)
		}
	}
	wantSame(t, plain(four), plain(long()), false)
}

func TestListsThatAreNilAndEmpty(t *testing.T) {
	empty := api.Script{Rates: []api.Rate{}, On: []int64{}, Delays: []int64{}, Happenings: []api.Happening{}, Faults: []api.Fault{}}
	wantSame(t, api.Script{}, api.Script{}, true)
	wantSame(t, api.Script{}, empty, true)
	wantSame(t, empty, script.Copy(empty), true)
	s := plain(four)
	s.Delays, s.Happenings, s.Faults = empty.Delays, empty.Happenings, empty.Faults
	wantSame(t, plain(four), s, true)
	wantFine(t, four, s)
	a, b := brief(four), brief(four)
	a.Happenings[0].Payload, b.Happenings[0].Payload = nil, []byte{}
	wantSame(t, a, b, true)
	wantFine(t, four, a)
	wantFine(t, four, b)
}

func TestCopyIsTheSame(t *testing.T) {
	r := rand.New(rand.NewSource(113))
	for _, p := range plans() {
		for _, s := range append(others(p), plain(p), brief(p), fullest(p), someScript(r, p), someScript(r, p)) {
			if c := script.Copy(s); !alike(c, s) {
				t.Errorf("copy: %s; want %s", text(c), text(s))
			}
		}
	}
}

// P11.3

// spoil writes over all that a script has, and behind it.
func spoil(s api.Script) {
	for n := range s.Rates {
		s.Rates[n] = api.Rate{Num: -7, Den: -7}
	}
	for _, list := range [][]int64{s.On, s.Delays} {
		for n := range list {
			list[n] = -7
		}
		_ = append(list, -7, -7, -7)
	}
	for n := range s.Happenings {
		for b := range s.Happenings[n].Payload {
			s.Happenings[n].Payload[b] ^= 255
		}
		_ = append(s.Happenings[n].Payload, 7, 7, 7)
		s.Happenings[n] = api.Happening{Kind: -7}
	}
	for n := range s.Faults {
		s.Faults[n] = api.Fault{Sender: -7}
	}
	_ = append(s.Rates, api.Rate{Num: -7})
	_ = append(s.Happenings, api.Happening{Kind: -7})
	_ = append(s.Faults, api.Fault{Sender: -7})
}

// someScripts are scripts with bytes and lists of all lengths.
func someScripts(p api.Plan) []api.Script {
	r := rand.New(rand.NewSource(114))
	all := []api.Script{plain(p), brief(p), fullest(p), {}, brokenScripts(p)[1]}
	for range 10 {
		all = append(all, someScript(r, p))
	}
	return all
}

func TestACopyIsNewMemory(t *testing.T) {
	for _, p := range plans() {
		for _, s := range someScripts(p) {
			before := text(s)
			spoil(script.Copy(s))
			if text(s) != before {
				t.Errorf("changed by its copy: %s; was %s", text(s), before)
			}
			c := script.Copy(s)
			d := script.Copy(c)
			spoil(s)
			if text(c) != before {
				t.Errorf("a copy, changed: %s; was %s", text(c), before)
			}
			spoil(c)
			if text(d) != before {
				t.Errorf("a copy's copy, changed: %s; was %s", text(d), before)
			}
		}
	}
}

func TestWhatIsDecodedIsNewMemory(t *testing.T) {
	for _, p := range plans() {
		for _, s := range someScripts(p)[5:] {
			b := written(p, s)
			same := slices.Clone(b)
			first, _ := script.Decode(p, b)
			again, _ := script.Decode(p, b)
			spoil(first)
			if !bytes.Equal(b, same) {
				t.Error("bytes, changed by what they said")
			}
			for n := range b {
				b[n] = 3
			}
			if !alike(again, s) {
				t.Errorf("changed by its bytes: %s; was %s", text(again), text(s))
			}
			for n := range again.Happenings {
				_ = append(again.Happenings[n].Payload, 99)
			}
			if !alike(again, s) {
				t.Errorf("changed by more bytes: %s; was %s", text(again), text(s))
			}
		}
	}
}

func TestWhatIsEncodedIsNewMemory(t *testing.T) {
	for _, p := range plans() {
		for _, s := range someScripts(p)[5:] {
			before, want := text(s), written(p, s)
			b, _ := script.Encode(p, s)
			again, _ := script.Encode(p, s)
			for n := range b {
				b[n] ^= 255
			}
			_ = append(b, 9)
			if text(s) != before || !bytes.Equal(again, want) {
				t.Errorf("changed by its bytes: %s; was %s", text(s), before)
			}
			spoil(s)
			if !bytes.Equal(again, want) {
				t.Error("bytes, changed by their script")
			}
		}
	}
}

func TestWhatIsHandedInIsOnlyRead(t *testing.T) {
	for _, p := range append(plans(), broken()...) {
		q := p
		for _, s := range someScripts(four) {
			before := text(s)
			script.Check(p, s)
			script.Encode(p, s)
			script.Delay(p, s, 1, 2, 3, 1)
			script.Heard(p, s, 1, 2, 3, 1)
			script.Same(s, brief(four))
			script.Same(brief(four), s)
			script.Copy(s)
			if text(s) != before || p != q {
				t.Errorf("handed in, and changed: %s; was %s", text(s), before)
			}
		}
	}
}

// P11.4

func TestAnyBytesSayAScript(t *testing.T) {
	r := rand.New(rand.NewSource(115))
	for _, p := range plans() {
		for n := range 100 {
			b := someBytes(r, int64(12*n))
			if n%2 == 0 { // numbers of low bytes alone, so that there are few delays
				for at := range min(len(b), 8*p.Nodes+2) {
					b[at] &= byte(n)
				}
			}
			wantSaid(t, p, b)
			s, _ := script.Decode(p, b)
			wantFine(t, p, s)
		}
	}
}

func TestAScriptIsReadAsItWas(t *testing.T) {
	r := rand.New(rand.NewSource(116))
	for _, p := range plans() {
		for range 30 {
			s := someScript(r, p)
			wantFine(t, p, s)
			wantFine(t, p, script.Copy(s))
		}
	}
}

func TestEachDelayIsFromTheLeastToTheGreatest(t *testing.T) {
	r := rand.New(rand.NewSource(117))
	for _, p := range plans() {
		least, greatest := p.Dmax, p.Dmin
		s := plain(p)
		s.Delays = []int64{0, p.Dmax - p.Dmin, (p.Dmax - p.Dmin) / 2}
		for range 200 {
			d := script.Delay(p, s, r.Intn(p.Nodes), int(r.Int31()), r.Intn(p.Nodes), r.Intn(2))
			least, greatest = min(least, d), max(greatest, d)
		}
		if least != p.Dmin || greatest != p.Dmax {
			t.Errorf("delays from %d to %d, want from %d to %d", least, greatest, p.Dmin, p.Dmax)
		}
	}
}
