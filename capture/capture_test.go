package capture_test

import (
	"fmt"
	"math"
	"math/rand"
	"slices"
	"testing"

	"vespers/api"
	"vespers/capture"
)

// far are numbers that no node and no channel is.
var far = []int{
	math.MinInt, math.MinInt + 1, -1 << 62, -1 << 33, -1 << 32, -1<<32 + 1, -1 << 31, -1 << 16, -1 << 8, -17, -16, -15, -2, -1,
	16, 17, 31, 32, 1 << 8, 1<<8 + 1, 1 << 16, 1<<16 + 1, 1 << 31, 1 << 32, 1<<32 + 1, 1 << 33, 1 << 62, math.MaxInt - 1, math.MaxInt,
}

// farBy are numbers that no deviation is.
var farBy = []int64{
	math.MinInt64, math.MinInt64 + 1, -1 << 62, -1 << 33, -greatest - 2, -greatest - 1,
	greatest + 1, greatest + 2, 1 << 33, 1 << 62, math.MaxInt64 - 1, math.MaxInt64,
}

// edges are deviations, the least and the greatest among them.
var edges = []int64{
	-greatest, -greatest + 1, -greatest + 2, -1 << 31, -1000, -3, -2, -1, 0,
	1, 2, 3, 1000, 1 << 31, greatest - 2, greatest - 1, greatest,
}

// owns are all nodes, and numbers that are none.
func owns() []int {
	all := slices.Clone(far)
	for node := range nodes {
		all = append(all, node)
	}
	return all
}

// page is a capture, and what it has to be by the words.
type page struct {
	t *testing.T
	*capture.Capture
	book
}

func newPage(t *testing.T, notes ...noted) *page {
	t.Helper()
	p := &page{t, new(capture.Capture), book{}}
	for _, n := range notes {
		p.jots(n)
	}
	return p
}

// told is all that a capture tells: also what may still be noted.
func told(c *capture.Capture) string {
	var all []any
	all = append(all, c.Count(), c.List())
	for node := range nodes {
		for channel := range 2 {
			all = append(all, c.Copy().Note(node, channel, 0))
		}
	}
	return fmt.Sprint(all...)
}

// jots notes, and wants what the words say of it.
func (p *page) jots(n noted) {
	p.t.Helper()
	want := p.note(n)
	if err := p.Note(n.node, n.channel, n.by); err != want {
		p.t.Errorf("note of %+v: error %d, want %d", n, err, want)
	}
}

// fits notes, and wants that it may be.
func (p *page) fits(node, channel int, by int64) {
	p.t.Helper()
	if !p.mayNote(noted{node, channel, by}) {
		p.t.Errorf("%d of node %d on %d may not be noted, by the words", by, node, channel)
	}
	p.jots(noted{node, channel, by})
}

// refuses wants that something may not be noted, and leaves all as it was.
func (p *page) refuses(node, channel int, by int64) {
	p.t.Helper()
	before := told(p.Capture)
	if err := p.Note(node, channel, by); err != api.ErrCapture {
		p.t.Errorf("note of %d of node %d on %d: error %d, want ErrCapture", by, node, channel, err)
	}
	if p.mayNote(noted{node, channel, by}) {
		p.t.Errorf("%d of node %d on %d may be noted, by the words", by, node, channel)
	}
	if told(p.Capture) != before {
		p.t.Errorf("%d of node %d on %d was refused, and changed the capture", by, node, channel)
	}
}

func (p *page) forgets(node int) {
	p.t.Helper()
	want := p.forget(node)
	if had := p.Forget(node); had != want {
		p.t.Errorf("forget of %d: %t, want %t", node, had, want)
	}
}

func (p *page) clears() {
	p.t.Helper()
	want := p.clear()
	if many := p.Clear(); many != want {
		p.t.Errorf("clear: %d, want %d", many, want)
	}
}

func (p *page) copies() *page { return &page{p.t, p.Copy(), *p.copy()} }

// wantOf wants a node's deviation.
func (p *page) wantOf(node int, want int64, wantIs bool) {
	p.t.Helper()
	if by, is := p.Of(node); by != want || is != wantIs {
		p.t.Errorf("of node %d: %d, %t; want %d, %t", node, by, is, want, wantIs)
	}
	if by, is := p.deviation(node); by != want || is != wantIs {
		p.t.Errorf("of node %d, by the words: %d, %t; want %d, %t", node, by, is, want, wantIs)
	}
}

func (p *page) wantValues(own int, want ...int64) {
	p.t.Helper()
	if got := p.Values(own); !slices.Equal(got, want) {
		p.t.Errorf("values for %d: %v, want %v", own, got, want)
	}
	if by := p.values(own); !slices.Equal(by, want) {
		p.t.Errorf("values for %d, by the words: %v, want %v", own, by, want)
	}
}

func (p *page) wantList(want ...api.Deviation) {
	p.t.Helper()
	if got := p.List(); !slices.Equal(got, want) {
		p.t.Errorf("list: %v, want %v", got, want)
	}
	if by := p.list(); !slices.Equal(by, want) {
		p.t.Errorf("list, by the words: %v, want %v", by, want)
	}
	if many := p.Count(); many != len(want) {
		p.t.Errorf("count: %d, want %d", many, len(want))
	}
}

// wantSame wants all that the words say.
func (p *page) wantSame() {
	p.t.Helper()
	p.wantList(p.list()...)
	for _, own := range owns() {
		by, is := p.deviation(own)
		p.wantOf(own, by, is)
		p.wantValues(own, p.values(own)...)
	}
}

// someBy is a deviation, often one at an edge.
func someBy(r *rand.Rand) int64 {
	switch r.Intn(4) {
	case 0:
		return edges[r.Intn(len(edges))]
	case 1:
		return r.Int63n(2*greatest+1) - greatest
	}
	return r.Int63n(2001) - 1000
}

// someNotes are of some nodes and channels, each once, in any order.
func someNotes(r *rand.Rand, many int) (all []noted) {
	for _, place := range r.Perm(2 * nodes)[:many] {
		all = append(all, noted{place / 2, place % 2, someBy(r)})
	}
	return all
}

// fullNotes are of all nodes and both channels.
func fullNotes() (all []noted) {
	for node := range nodes {
		for channel := range 2 {
			all = append(all, noted{node, channel, int64(node*node*7 - 500*channel)})
		}
	}
	return all
}

// halfNotes are of all nodes, each on one channel.
func halfNotes() (all []noted) {
	for node := range nodes {
		all = append(all, noted{node, node / 2 % 2, int64(100 - 31*node)})
	}
	return all
}

// The chapter's examples.

func TestExamples(t *testing.T) {
	var c capture.Capture
	if a, b := c.Note(3, 0, 7), c.Note(3, 1, 8); a != api.OK || b != api.OK {
		t.Errorf("noted: errors %d, %d", a, b)
	}
	if by, is := c.Of(3); by != 7 || !is {
		t.Errorf("of node 3: %d, %t", by, is)
	}
	if err := c.Note(3, 1, 9); err != api.ErrCapture {
		t.Errorf("noted again: error %d", err)
	}
	if err := c.Note(1, 1, -4); err != api.OK {
		t.Errorf("noted: error %d", err)
	}
	if values := c.Values(2); !slices.Equal(values, []int64{-4, 0, 7}) {
		t.Errorf("values for node 2: %v", values)
	}
	if c.Count() != 2 {
		t.Errorf("count: %d", c.Count())
	}
}

func TestLimits(t *testing.T) {
	if api.ErrNil != 1 || api.ErrCapture != 130 || api.MaxDeviation != greatest || api.MaxNodes != nodes {
		t.Error("other numbers than the document's")
	}
}

// A capture that nobody made, and none.

func TestACaptureThatNobodyMade(t *testing.T) {
	for _, p := range []*page{newPage(t), {t, &capture.Capture{}, book{}}} {
		p.wantList()
		p.wantSame()
		for node := range nodes {
			p.wantOf(node, 0, false)
			p.wantValues(node, 0)
			p.forgets(node)
		}
		for _, own := range far {
			p.wantOf(own, 0, false)
			p.wantValues(own)
			p.forgets(own)
		}
		p.clears()
		if p.Forget(0) || p.Clear() != 0 {
			t.Error("had something")
		}
		p.copies().wantSame()
		p.fits(0, 0, -1) // it is used as it is
		p.wantList(api.Deviation{Node: 0, By: -1})
		p.wantSame()
	}
}

func TestNoCapture(t *testing.T) {
	var c *capture.Capture
	for _, node := range owns() {
		for _, channel := range append([]int{0, 1}, far...) {
			for _, by := range []int64{0, 1, greatest, greatest + 1, math.MinInt64, math.MaxInt64} {
				if err := c.Note(node, channel, by); err != api.ErrNil {
					t.Errorf("note of %d of node %d on %d: error %d, want ErrNil", by, node, channel, err)
				}
			}
		}
		by, is := c.Of(node)
		if by != 0 || is || c.Forget(node) || len(c.Values(node)) != 0 {
			t.Errorf("node %d: %d, %t, values %v", node, by, is, c.Values(node))
		}
	}
	if c.Count() != 0 || len(c.List()) != 0 || c.Clear() != 0 || c.Copy() != nil {
		t.Errorf("none has %d, %v, or a copy", c.Count(), c.List())
	}
}

// P13.1

func TestNoteOfEachNodeAndChannel(t *testing.T) {
	for node := range nodes {
		for channel := range 2 {
			for _, by := range edges {
				p := newPage(t)
				p.fits(node, channel, by)
				p.wantOf(node, by, true)
				p.wantList(api.Deviation{Node: node, By: by})
				p.wantValues(-1, by)
				p.wantValues(node, 0)
				p.refuses(node, channel, by)
				p.refuses(node, channel, 0)
				p.fits(node, 1-channel, by) // the other one is free
				p.wantOf(node, by, true)
				p.refuses(node, 0, by)
				p.refuses(node, 1, by)
				p.wantSame()
			}
		}
	}
}

func TestNoteOfAll(t *testing.T) {
	for _, notes := range [][]noted{fullNotes(), halfNotes()} {
		p := newPage(t)
		for _, n := range notes {
			p.fits(n.node, n.channel, n.by)
			p.wantSame()
		}
		if p.Count() != nodes {
			t.Errorf("count: %d", p.Count())
		}
	}
}

func TestNoteOfNodesThatThereAreNot(t *testing.T) {
	for _, p := range []*page{newPage(t), newPage(t, fullNotes()...), newPage(t, halfNotes()...), newPage(t, noted{15, 1, 4})} {
		for _, node := range far {
			for channel := range 2 {
				for _, by := range edges {
					p.refuses(node, channel, by)
				}
			}
		}
		p.wantSame()
	}
}

func TestNoteOfChannelsThatThereAreNot(t *testing.T) {
	for _, p := range []*page{newPage(t), newPage(t, fullNotes()...), newPage(t, halfNotes()...), newPage(t, noted{0, 0, 4})} {
		for _, channel := range append([]int{2, 3, 4, 15}, far...) {
			for node := range nodes {
				p.refuses(node, channel, 0)
				p.refuses(node, channel, -greatest)
			}
		}
		p.wantSame()
	}
}

func TestNoteOfWhatIsNoDeviation(t *testing.T) {
	for _, p := range []*page{newPage(t), newPage(t, fullNotes()...), newPage(t, halfNotes()...)} {
		for _, by := range farBy {
			for node := range nodes {
				p.refuses(node, 0, by)
				p.refuses(node, 1, by)
			}
		}
		p.wantSame()
	}
	p := newPage(t)
	p.refuses(7, 1, -greatest-1)
	p.fits(7, 1, -greatest)
	p.refuses(7, 0, greatest+1)
	p.fits(7, 0, greatest)
	p.wantOf(7, 0, true)
}

func TestNoteOfAllThatIsWrong(t *testing.T) {
	p := newPage(t, noted{2, 0, 5})
	for _, node := range far {
		for _, channel := range far {
			for _, by := range farBy {
				p.refuses(node, channel, by)
			}
		}
	}
	p.wantSame()
}

func TestASecondNoteOfTheSameChannel(t *testing.T) {
	for _, first := range edges {
		for node := range nodes {
			p := newPage(t, noted{node, 1, first})
			for _, by := range edges {
				p.refuses(node, 1, by) // also the same one
			}
			p.wantOf(node, first, true)
			p.fits(node, 0, first)
			for _, by := range edges {
				p.refuses(node, 0, by)
				p.refuses(node, 1, by)
			}
			p.wantOf(node, first, true)
		}
	}
}

func TestADeviationOfNought(t *testing.T) {
	for node := range nodes {
		p := newPage(t, noted{node, 0, 0})
		p.refuses(node, 0, 0)
		p.refuses(node, 0, 5)
		for other := range nodes {
			p.wantOf(other, 0, other == node)
		}
		p.wantList(api.Deviation{Node: node})
		p.wantValues(-1, 0)
		p.fits(node, 1, 0)
		p.refuses(node, 1, 0)
		p.wantOf(node, 0, true)
		p.wantSame()
		p.forgets(node)
		p.wantOf(node, 0, false)
		p.wantValues(-1)
		p.fits(node, 0, 0)
		p.wantSame()
	}
}

func TestForget(t *testing.T) {
	for node := range nodes {
		for _, notes := range [][]noted{nil, {{node, 0, 7}}, {{node, 1, 8}}, {{node, 0, 7}, {node, 1, 8}}, {{node, 0, 0}}, {{node, 1, 0}, {node, 0, 0}}} {
			p := newPage(t, notes...)
			for _, other := range []int{0, 5, 15} {
				if other != node {
					p.fits(other, 0, 40)
					p.fits(other, 1, 41)
				}
			}
			if had := p.Copy().Forget(node); had != (len(notes) > 0) {
				t.Errorf("forget of %d with %v: %t", node, notes, had)
			}
			p.forgets(node)
			p.wantOf(node, 0, false)
			p.wantSame()
			p.forgets(node) // there is none any more
			p.wantSame()
			p.fits(node, 1, -9)
			p.wantOf(node, -9, true) // without what was forgotten
			p.fits(node, 0, -10)
			p.wantOf(node, -10, true)
			p.wantSame()
		}
	}
}

func TestForgetOfNodesThatThereAreNot(t *testing.T) {
	for _, notes := range [][]noted{nil, fullNotes(), halfNotes()} {
		p := newPage(t, notes...)
		for _, node := range far {
			if p.Forget(node) {
				t.Errorf("node %d is forgotten", node)
			}
		}
		p.wantSame()
	}
}

func TestForgetOfAllOneByOne(t *testing.T) {
	for _, notes := range [][]noted{fullNotes(), halfNotes()} {
		p := newPage(t, notes...)
		for _, node := range []int{15, 0, 7, 8, 1, 14, 3, 2, 5, 4, 6, 13, 12, 9, 11, 10} {
			p.forgets(node)
			p.wantSame()
		}
		p.wantList()
		for _, n := range notes {
			p.fits(n.node, n.channel, n.by)
		}
		p.wantSame()
	}
}

func TestClear(t *testing.T) {
	for _, one := range []struct {
		notes []noted
		many  int
	}{
		{nil, 0},
		{[]noted{{0, 0, 0}}, 1},
		{[]noted{{15, 1, -1}}, 1},
		{[]noted{{4, 0, 3}, {4, 1, 3}}, 1},
		{[]noted{{4, 0, 3}, {5, 1, 3}, {4, 1, 3}}, 2},
		{halfNotes(), 16},
		{fullNotes(), 16},
	} {
		p := newPage(t, one.notes...)
		if many := p.Copy().Clear(); many != one.many {
			t.Errorf("clear of %v: %d, want %d", one.notes, many, one.many)
		}
		p.clears()
		p.wantList()
		p.wantSame()
		p.clears() // there is none any more
		for _, n := range one.notes {
			p.fits(n.node, n.channel, n.by-1)
		}
		p.wantSame()
	}
}

// P13.2

func TestOfBothChannels(t *testing.T) {
	for _, one := range []struct{ a, b, half int64 }{
		{7, 8, 7}, {7, 9, 8}, {-7, -8, -8}, {-7, -9, -8}, {-7, 8, 0}, {7, -8, -1}, {-1, 0, -1}, {1, 0, 0}, {-1, -1, -1},
		{0, 0, 0}, {1, -1, 0}, {-3, 0, -2}, {3, 0, 1}, {-2, 1, -1}, {2, -5, -2},
		{greatest, greatest, greatest}, {-greatest, -greatest, -greatest}, {greatest, -greatest, 0},
		{greatest, greatest - 1, greatest - 1}, {-greatest, -greatest + 1, -greatest},
		{greatest, -1, greatest/2 - 1}, {-greatest, 1, -greatest / 2}, {-greatest, -1, -greatest/2 - 1}, {greatest, 0, greatest / 2},
	} {
		for node := range nodes {
			p := newPage(t, noted{node, 0, one.a}, noted{node, 1, one.b})
			p.wantOf(node, one.half, true)
			p.wantList(api.Deviation{Node: node, By: one.half})
			p.wantValues(-1, one.half)
			p = newPage(t, noted{node, 0, one.b}, noted{node, 1, one.a})
			p.wantOf(node, one.half, true)
		}
	}
}

func TestOfEdges(t *testing.T) {
	for _, a := range edges {
		for _, b := range edges {
			p := newPage(t, noted{0, 0, a}, noted{0, 1, b}, noted{15, 0, a}, noted{14, 1, b})
			p.wantOf(0, halfOf(a, b), true)
			p.wantOf(14, b, true)
			p.wantOf(15, a, true)
			p.wantValues(7, halfOf(a, b), 0, b, a)
			p.wantSame()
		}
	}
}

func TestCountAndList(t *testing.T) {
	p := newPage(t)
	p.wantList()
	p.fits(15, 1, 3)
	p.wantList(api.Deviation{Node: 15, By: 3})
	p.fits(0, 0, -3)
	p.wantList(api.Deviation{Node: 0, By: -3}, api.Deviation{Node: 15, By: 3})
	p.fits(0, 1, -4)
	p.wantList(api.Deviation{Node: 0, By: -4}, api.Deviation{Node: 15, By: 3})
	p.fits(8, 1, 0)
	p.wantList(api.Deviation{Node: 0, By: -4}, api.Deviation{Node: 8}, api.Deviation{Node: 15, By: 3})
	p.forgets(0)
	p.wantList(api.Deviation{Node: 8}, api.Deviation{Node: 15, By: 3})
	p.clears()
	p.wantList()
}

func TestValues(t *testing.T) {
	p := newPage(t, noted{3, 0, 7}, noted{0, 1, -5}, noted{15, 0, 20}, noted{15, 1, 23}, noted{9, 1, 0})
	p.wantValues(0, 0, 7, 0, 21)      // the first one, which has one
	p.wantValues(15, -5, 7, 0, 0)     // the last one, likewise
	p.wantValues(3, -5, 0, 0, 21)     // one between
	p.wantValues(9, -5, 7, 0, 21)     // one whose own is 0
	p.wantValues(1, -5, 0, 7, 0, 21)  // one that has none
	p.wantValues(14, -5, 7, 0, 0, 21) // likewise
	for _, own := range far {
		p.wantValues(own, -5, 7, 0, 21) // no node
	}
	p.wantSame()
	p.forgets(0)
	p.forgets(15)
	p.wantValues(0, 0, 7, 0) // the first one, which has none
	p.wantValues(15, 7, 0, 0)
	p.wantSame()
}

func TestValuesOfAll(t *testing.T) {
	for _, notes := range [][]noted{fullNotes(), halfNotes()} {
		p := newPage(t, notes...)
		for own := range nodes {
			values := p.Values(own)
			if len(values) != nodes || values[own] != 0 {
				t.Errorf("values for %d: %v", own, values)
			}
		}
		if values := p.Values(nodes); len(values) != nodes {
			t.Errorf("values for no node: %v", values)
		}
		p.wantSame()
	}
}

func TestCopiesAreByThemselves(t *testing.T) {
	for _, notes := range [][]noted{nil, {{0, 0, 4}}, {{15, 0, 4}, {15, 1, 9}}, halfNotes(), fullNotes()} {
		for _, turn := range []func(p *page){
			func(p *page) { p.jots(noted{5, 0, 77}) },
			func(p *page) { p.jots(noted{0, 1, -77}) },
			func(p *page) { p.forgets(0) },
			func(p *page) { p.forgets(15) },
			func(p *page) { p.clears() },
			func(p *page) { p.clears(); p.jots(noted{0, 0, 1}) },
		} {
			first := newPage(t, notes...)
			second := first.copies()
			if second.Capture == nil || second.Capture == first.Capture || told(second.Capture) != told(first.Capture) {
				t.Errorf("a copy that is another one, or the same, of %v", notes)
			}
			second.wantSame()
			turn(second)
			first.wantSame()
			second.wantSame()

			third := first.copies()
			turn(first)
			first.wantSame()
			third.wantSame()
			turn(third)
			third.wantSame()
			if told(third.Capture) != told(first.Capture) {
				t.Errorf("the same was done to a copy, and it is another one, of %v", notes)
			}
		}
	}
}

func TestACopyOfACopy(t *testing.T) {
	first := newPage(t, halfNotes()...)
	second := first.copies()
	second.forgets(3)
	third := second.copies()
	third.clears()
	third.fits(1, 1, 1)
	for _, p := range []*page{first, second, third} {
		p.wantSame()
	}
}

// P13.3

func TestWhatIsAnsweredIsNewMemory(t *testing.T) {
	for _, notes := range [][]noted{nil, {{0, 0, 4}, {3, 1, 5}}, halfNotes(), fullNotes()} {
		p := newPage(t, notes...)
		for _, own := range owns() {
			before := p.Values(own)
			values, list := p.Values(own), p.List()
			for n := range values {
				values[n] = -99
			}
			for n := range list {
				list[n] = api.Deviation{Node: 99, By: -99}
			}
			_ = append(values, 99, 99, 99)
			_ = append(list, api.Deviation{}, api.Deviation{})
			if !slices.Equal(before, p.values(own)) {
				t.Errorf("values for %d were changed by others: %v", own, before)
			}
			p.wantValues(own, p.values(own)...)
			p.wantList(p.list()...)
		}
		values, list := p.Values(2), p.List()
		wantValues, wantList := p.values(2), p.list()
		p.clears()
		p.fits(2, 0, 1234)
		if !slices.Equal(values, wantValues) || !slices.Equal(list, wantList) {
			t.Errorf("what was answered was changed: %v, %v", values, list)
		}
	}
}

func TestAskingChangesNothing(t *testing.T) {
	for _, notes := range [][]noted{nil, {{0, 0, 4}, {3, 1, 5}}, halfNotes(), fullNotes()} {
		p := newPage(t, notes...)
		before := told(p.Capture)
		for range 3 {
			p.wantSame()
			p.copies().clears()
		}
		if told(p.Capture) != before {
			t.Errorf("asking changed a capture of %v", notes)
		}
	}
}

func TestCapturesAreApart(t *testing.T) {
	a, b := newPage(t), newPage(t)
	a.fits(0, 0, 1)
	b.fits(0, 0, 2)
	b.fits(15, 1, 3)
	a.wantList(api.Deviation{Node: 0, By: 1})
	b.wantList(api.Deviation{Node: 0, By: 2}, api.Deviation{Node: 15, By: 3})
	a.clears()
	a.wantSame()
	b.wantSame()
}

// P13.4

func TestADeviationLiesBetweenThoseOfItsChannels(t *testing.T) {
	r := rand.New(rand.NewSource(131))
	for range 20000 {
		a, b := someBy(r), someBy(r)
		if r.Intn(3) == 0 {
			b = min(a+int64(r.Intn(3)), greatest) // beside it
		}
		p := newPage(t, noted{9, 0, a}, noted{9, 1, b})
		by, is := p.Of(9)
		if !is || by < min(a, b) || by > max(a, b) {
			t.Errorf("of %d and %d: %d, %t", a, b, by, is)
		}
		if 2*by != a+b && 2*by != a+b-1 {
			t.Errorf("of %d and %d: %d is not their half, rounded down", a, b, by)
		}
	}
}

func TestTheOrderOfNotesDoesNotMatter(t *testing.T) {
	r := rand.New(rand.NewSource(132))
	for range 300 {
		notes := someNotes(r, r.Intn(2*nodes+1))
		first := newPage(t, notes...)
		first.wantSame()
		turned := slices.Clone(notes)
		slices.Reverse(turned)
		for range 4 {
			other := newPage(t, turned...)
			if told(other.Capture) != told(first.Capture) {
				t.Errorf("noted in another order: %v, want %v", other.List(), first.List())
			}
			for _, own := range owns() {
				if !slices.Equal(other.Values(own), first.Values(own)) {
					t.Errorf("noted in another order: values %v, want %v", other.Values(own), first.Values(own))
				}
			}
			r.Shuffle(len(turned), func(i, j int) { turned[i], turned[j] = turned[j], turned[i] })
		}
	}
}

// All of it, by the words.

func TestManyStepsByTheWords(t *testing.T) {
	r := rand.New(rand.NewSource(133))
	for range 100 {
		p := newPage(t)
		for range 100 {
			switch r.Intn(12) {
			case 0:
				p.forgets(r.Intn(nodes))
			case 1:
				p.forgets(far[r.Intn(len(far))])
			case 2:
				p.jots(noted{far[r.Intn(len(far))], r.Intn(2), someBy(r)})
			case 3:
				p.jots(noted{r.Intn(nodes), r.Intn(5) - 2, someBy(r)})
			case 4:
				p.jots(noted{r.Intn(nodes), r.Intn(2), farBy[r.Intn(len(farBy))]})
			case 5:
				if r.Intn(8) == 0 {
					p.clears()
				}
			case 6:
				other := p.copies()
				other.forgets(r.Intn(nodes))
				other.jots(noted{r.Intn(nodes), r.Intn(2), someBy(r)})
			default:
				p.jots(noted{r.Intn(nodes), r.Intn(2), someBy(r)})
			}
			if r.Intn(4) == 0 {
				p.wantSame()
			}
		}
		p.wantSame()
	}
}
