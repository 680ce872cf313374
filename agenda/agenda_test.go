package agenda_test

import (
	"math"
	"math/rand"
	"slices"
	"testing"

	"vespers/agenda"
	"vespers/api"
)

// far are numbers below 0, of all sizes.
var far = []int64{math.MinInt64, math.MinInt64 + 1, -1 << 62, -1 << 33, -1 << 32, -1<<32 + 1, -1 << 31, -65536, -2, -1}

// high are numbers of 0 and above, of all sizes.
var high = []int64{0, 1, 2, 15, 16, 65536, 1<<31 - 1, 1 << 31, 1<<32 - 1, 1 << 32, 1<<32 + 1, 1 << 33, 1 << 62, math.MaxInt64 - 1, math.MaxInt64}

func event(time int64, kind, node, number int, value int64) api.Event {
	return api.Event{Time: time, Kind: kind, Node: node, Number: number, Value: value}
}

// at is an event of a time alone, told by a value.
func at(time, value int64) api.Event { return event(time, 0, 0, 0, value) }

// of is an agenda into which events were put.
func of(t *testing.T, events ...api.Event) *agenda.Agenda {
	t.Helper()
	a := new(agenda.Agenda)
	wantPut(t, a, events...)
	return a
}

func wantPut(t *testing.T, a *agenda.Agenda, events ...api.Event) {
	t.Helper()
	for _, x := range events {
		if err := a.Put(x); err != api.OK {
			t.Errorf("put of %+v: error %d", x, err)
		}
	}
}

// wantNoPut wants that an event is refused, and nothing else happens.
func wantNoPut(t *testing.T, a *agenda.Agenda, x api.Event) {
	t.Helper()
	before := a.Len()
	if err := a.Put(x); err != api.ErrAgenda {
		t.Errorf("put of %+v: error %d, want ErrAgenda", x, err)
	}
	if a.Len() != before {
		t.Errorf("put of %+v: %d events, want %d", x, a.Len(), before)
	}
}

func wantEvents(t *testing.T, name string, got, want []api.Event) {
	t.Helper()
	if len(got) != len(want) {
		t.Errorf("%s: %d events, want %d", name, len(got), len(want))
	}
	for n := range min(len(got), len(want)) {
		if got[n] != want[n] {
			t.Errorf("%s: event %d is %+v, want %+v", name, n, got[n], want[n])
			return
		}
	}
}

// wantAll wants that an agenda has just these events, in that order.
func wantAll(t *testing.T, a *agenda.Agenda, want ...api.Event) {
	t.Helper()
	if a.Len() != len(want) {
		t.Errorf("%d events, want %d", a.Len(), len(want))
	}
	wantEvents(t, "all", a.All(), want)
	var ahead api.Event
	if len(want) > 0 {
		ahead = want[0]
	}
	if x, is := a.First(); x != ahead || is != (len(want) > 0) {
		t.Errorf("first: %+v, %t; want %+v", x, is, ahead)
	}
}

// wantTaken takes events by turns, and wants these.
func wantTaken(t *testing.T, a *agenda.Agenda, want ...api.Event) {
	t.Helper()
	for _, w := range want {
		if x, is := a.First(); x != w || !is {
			t.Errorf("first: %+v, %t; want %+v", x, is, w)
		}
		before := a.Len()
		if x, is := a.Take(); x != w || !is {
			t.Errorf("taken: %+v, %t; want %+v", x, is, w)
		}
		if a.Len() != before-1 {
			t.Errorf("%d events behind a take, want %d", a.Len(), before-1)
		}
	}
}

func wantUntil(t *testing.T, a *agenda.Agenda, time int64, want ...api.Event) {
	t.Helper()
	before := a.Len()
	wantEvents(t, "until", a.Until(time), want)
	if a.Len() != before-len(want) {
		t.Errorf("%d events behind until %d, want %d", a.Len(), time, before-len(want))
	}
}

func wantDrop(t *testing.T, a *agenda.Agenda, kind, node, want int) {
	t.Helper()
	if n := a.Drop(kind, node); n != want {
		t.Errorf("drop of kind %d, node %d: %d, want %d", kind, node, n, want)
	}
}

// wantNone wants that an agenda, or what is none, has no events.
func wantNone(t *testing.T, a *agenda.Agenda) {
	t.Helper()
	wantAll(t, a)
	if x, is := a.Take(); x != (api.Event{}) || is {
		t.Errorf("taken: %+v, %t; want none", x, is)
	}
	for _, n := range append(slices.Clone(far), high...) {
		wantUntil(t, a, n)
		wantDrop(t, a, int(n), int(n), 0)
	}
	wantAll(t, a)
}

// full is an agenda of as many events as there may be, by rising times from 1
// on, put in from both ends.
func full(t *testing.T) *agenda.Agenda {
	t.Helper()
	a := new(agenda.Agenda)
	for n := range int64(mostEvents / 2) {
		wantPut(t, a, at(mostEvents-n, 0), at(n+1, 0))
	}
	if a.Len() != mostEvents {
		t.Fatalf("%d events, want %d", a.Len(), mostEvents)
	}
	return a
}

// The chapter's examples.

func TestExamples(t *testing.T) {
	a := of(t, event(5, 1, 0, 0, 0), event(3, 9, 0, 0, 0), event(5, 0, 0, 0, 0))
	wantTaken(t, a, event(3, 9, 0, 0, 0), event(5, 0, 0, 0, 0), event(5, 1, 0, 0, 0))
	wantNone(t, a)
	wantNoPut(t, new(agenda.Agenda), at(-1, 0))
	if x, is := new(agenda.Agenda).Take(); x != (api.Event{}) || is {
		t.Errorf("taken of none: %+v, %t", x, is)
	}
}

// P10.1

func TestLimits(t *testing.T) {
	if api.MaxTime != lastTime || api.MaxEvents != mostEvents {
		t.Errorf("limits %d, %d", api.MaxTime, api.MaxEvents)
	}
}

func TestNumbersThatMayBe(t *testing.T) {
	for _, n := range high {
		wantAll(t, of(t, event(7, int(n), 0, 0, 0)), event(7, int(n), 0, 0, 0))
		wantAll(t, of(t, event(7, 0, int(n), 0, 0)), event(7, 0, int(n), 0, 0))
		wantAll(t, of(t, event(7, 0, 0, int(n), 0)), event(7, 0, 0, int(n), 0))
		wantAll(t, of(t, event(7, int(n), int(n), int(n), n)), event(7, int(n), int(n), int(n), n))
	}
	for _, n := range append(slices.Clone(far), high...) {
		wantAll(t, of(t, at(7, n)), at(7, n))
	}
	for _, n := range []int64{0, 1, 1<<31 - 1, 1 << 31, lastTime - 1, lastTime} {
		wantAll(t, of(t, at(n, 1)), at(n, 1))
		wantTaken(t, of(t, at(n, 1)), at(n, 1))
	}
}

// wrong are events that may not be: by one number alone, by some, by all.
func wrong() []api.Event {
	all := []api.Event{at(lastTime+1, 0), at(lastTime+1, -1), event(lastTime+1, -1, 0, 0, 0), event(-1, -1, -1, -1, -1), event(lastTime+1, -1, -1, -1, 0)}
	for _, n := range far {
		m := int(n)
		all = append(all,
			at(n, 0), event(7, m, 0, 0, 0), event(7, 0, m, 0, 0), event(7, 0, 0, m, 0),
			event(n, 1, 1, 1, 1), event(7, m, 1, 1, 1), event(7, 1, m, 1, 1), event(7, 1, 1, m, 1),
			event(n, m, 0, 0, 0), event(7, m, m, 0, 0), event(7, 0, m, m, 0), event(7, m, 0, m, 0),
			event(n, m, m, m, n), event(7, m, m, m, 0), event(math.MaxInt64, m, 0, 0, 0))
	}
	for _, n := range high {
		if n > lastTime {
			all = append(all, at(n, 0), event(n, int(n), int(n), int(n), n))
		}
	}
	return all
}

func TestEventsThatMayNotBe(t *testing.T) {
	zero, one := new(agenda.Agenda), of(t, at(5, 1))
	emptied := of(t, at(5, 1), at(6, 2))
	wantTaken(t, emptied, at(5, 1), at(6, 2))
	for _, x := range wrong() {
		wantNoPut(t, zero, x)
		wantNoPut(t, one, x)
		wantNoPut(t, emptied, x)
	}
	wantNone(t, zero)
	wantAll(t, one, at(5, 1))
	wantNone(t, emptied)
}

func TestAFullAgenda(t *testing.T) {
	a := full(t)
	before := a.All()
	for _, x := range append(wrong(), at(0, 0), at(1, 0), at(lastTime, 0), event(7, 1, 2, 3, 4)) {
		wantNoPut(t, a, x)
	}
	wantAll(t, a, before...)
	for n, x := range before {
		if x != at(int64(n)+1, 0) {
			t.Fatalf("event %d: %+v", n, x)
		}
	}
}

func TestOneLessThanFull(t *testing.T) {
	a := full(t)
	wantTaken(t, a, at(1, 0))
	if a.Len() != mostEvents-1 {
		t.Errorf("%d events, want %d", a.Len(), mostEvents-1)
	}
	for _, x := range wrong() {
		wantNoPut(t, a, x)
	}
	wantPut(t, a, at(0, 9))
	wantNoPut(t, a, at(0, 10))
	wantTaken(t, a, at(0, 9), at(2, 0))
	wantPut(t, a, at(lastTime, 9), at(lastTime, 10))
	wantNoPut(t, a, at(3, 9))
	if a.Len() != mostEvents {
		t.Errorf("%d events, want %d", a.Len(), mostEvents)
	}
}

func TestRoomIsMadeByUntilAndDrop(t *testing.T) {
	a := full(t)
	wantUntil(t, a, 3, at(1, 0), at(2, 0), at(3, 0))
	wantPut(t, a, event(9, 1, 2, 3, 4), event(9, 1, 2, 3, 5), event(0, 1, 3, 0, 0))
	wantNoPut(t, a, at(9, 0))
	wantDrop(t, a, 1, 2, 2)
	wantPut(t, a, at(1, 1), at(1, 2))
	wantNoPut(t, a, at(9, 0))
	wantTaken(t, a, event(0, 1, 3, 0, 0), at(1, 1), at(1, 2), at(4, 0))
	wantDrop(t, a, 0, 0, mostEvents-4)
	wantNone(t, a)
	wantPut(t, a, at(1, 0))
	wantAll(t, a, at(1, 0))
}

func TestAFullAgendaIsTakenInOrder(t *testing.T) {
	a := full(t)
	for n := range int64(mostEvents) {
		if x, is := a.Take(); x != at(n+1, 0) || !is {
			t.Fatalf("taken: %+v, %t; want that of %d", x, is, n+1)
		}
	}
	wantNone(t, a)
	wantPut(t, a, at(1, 0))
	wantAll(t, a, at(1, 0))
	b := full(t)
	if events := b.Until(lastTime); len(events) != mostEvents || !slices.Equal(events, inOrder(events)) {
		t.Errorf("until the last time: %d events, or not in order", len(events))
	}
	wantNone(t, b)
}

func TestWhoStandsAhead(t *testing.T) {
	for _, one := range []struct{ ahead, behind api.Event }{
		{event(0, 9, 9, 9, 9), event(1, 0, 0, 0, 0)},
		{event(4, 9, 9, 9, 9), event(5, 0, 0, 0, 0)},
		{event(9, 9, 9, 9, 9), event(10, 0, 0, 0, 0)},
		{event(lastTime-1, 9, 9, 9, 9), event(lastTime, 0, 0, 0, 0)},
		{event(0, 9, 9, 9, 9), event(lastTime, 0, 0, 0, 0)},
		{event(5, 0, 9, 9, 9), event(5, 1, 0, 0, 0)},
		{event(5, 9, 9, 9, 9), event(5, 10, 0, 0, 0)},
		{event(5, 0, 9, 9, 9), event(5, math.MaxInt, 0, 0, 0)},
		{event(5, 3, 0, 9, 9), event(5, 3, 1, 0, 0)},
		{event(5, 3, 9, 9, 9), event(5, 3, 10, 0, 0)},
		{event(5, 3, 0, 9, 9), event(5, 3, math.MaxInt, 0, 0)},
		{event(5, 3, 2, 0, 9), event(5, 3, 2, 1, 0)},
		{event(5, 3, 2, 9, 9), event(5, 3, 2, 10, 0)},
		{event(5, 3, 2, 0, 9), event(5, 3, 2, math.MaxInt, 0)},
		{event(5, 3, 2, math.MaxInt-1, 9), event(5, 3, 2, math.MaxInt, 0)},
	} {
		wantAll(t, of(t, one.ahead, one.behind), one.ahead, one.behind)
		wantAll(t, of(t, one.behind, one.ahead), one.ahead, one.behind)
		wantTaken(t, of(t, one.behind, one.ahead), one.ahead, one.behind)
		wantUntil(t, of(t, one.behind, one.ahead), lastTime, one.ahead, one.behind)
	}
}

// alikes are events in the order in which they stand as they are put in: alike
// in time, then in kind too, in node too, in all but value, in all.
func alikes() [][]api.Event {
	return [][]api.Event{
		{event(5, 0, 3, 3, 3), event(5, 1, 2, 2, 2), event(5, 2, 1, 1, 1), event(5, 3, 0, 0, 0)},
		{event(5, 1, 0, 3, 3), event(5, 1, 1, 2, 2), event(5, 1, 2, 1, 1), event(5, 1, 3, 0, 0)},
		{event(5, 1, 2, 0, 3), event(5, 1, 2, 1, 2), event(5, 1, 2, 2, 1), event(5, 1, 2, 3, 0)},
		{event(5, 1, 2, 3, 7), event(5, 1, 2, 3, 1), event(5, 1, 2, 3, 9), event(5, 1, 2, 3, -4)},
		{event(5, 1, 2, 3, 4), event(5, 1, 2, 3, 4), event(5, 1, 2, 3, 4), event(5, 1, 2, 3, 4)},
	}
}

func TestEventsThatAreAlike(t *testing.T) {
	for _, events := range alikes() {
		wantAll(t, of(t, events...), events...)
		wantTaken(t, of(t, events...), events...)
		wantUntil(t, of(t, events...), 5, events...)
	}
	for _, events := range alikes()[:3] { // these stand in order however they are put in
		back := slices.Clone(events)
		slices.Reverse(back)
		wantAll(t, of(t, back...), events...)
		wantTaken(t, of(t, back...), events...)
	}
	// Those that are alike in all but value stand as they came, whatever it is.
	back := alikes()[3]
	slices.Reverse(back)
	wantTaken(t, of(t, back...), back...)
}

func TestManyThatAreAlike(t *testing.T) {
	a := new(agenda.Agenda)
	var want []api.Event
	for n := range int64(1000) {
		want = append(want, event(5, 1, 2, 3, (n*37)%1000))
		wantPut(t, a, want[n])
	}
	wantAll(t, a, want...)
	wantTaken(t, a.Copy(), want...)
	wantUntil(t, a, 5, want...)
}

func TestAlikeWhileOthersAreTakenOrDropped(t *testing.T) {
	const kind, node, number = 1, 2, 3
	a := new(agenda.Agenda)
	alike := func(value int64) api.Event { return event(5, kind, node, number, value) }
	wantPut(t, a, alike(9), at(1, 0), event(5, 7, 7, 0, 0), alike(8))
	wantTaken(t, a, at(1, 0))
	wantPut(t, a, alike(7), event(6, 7, 7, 0, 0))
	wantDrop(t, a, 7, 7, 2)
	wantPut(t, a, alike(6), event(2, 7, 7, 0, 0), alike(5))
	wantUntil(t, a, 4, event(2, 7, 7, 0, 0))
	wantPut(t, a, alike(4))
	wantAll(t, a, alike(9), alike(8), alike(7), alike(6), alike(5), alike(4))
	wantTaken(t, a, alike(9), alike(8))
	wantPut(t, a, alike(9), alike(0))
	b := a.Copy()
	wantPut(t, a, alike(3))
	wantPut(t, b, alike(2))
	wantTaken(t, a, alike(7), alike(6), alike(5), alike(4), alike(9), alike(0), alike(3))
	wantTaken(t, b, alike(7), alike(6), alike(5), alike(4), alike(9), alike(0), alike(2))
	wantNone(t, a)
	wantNone(t, b)
	// An agenda out of which all was taken goes on likewise.
	wantPut(t, a, alike(1), alike(2), alike(1))
	wantTaken(t, a, alike(1), alike(2), alike(1))
}

func TestAlikeBehindADropOfThemselves(t *testing.T) {
	a := of(t, event(5, 1, 2, 3, 9), event(5, 1, 4, 3, 8), event(5, 1, 2, 3, 7), event(5, 1, 4, 3, 6), event(5, 1, 4, 3, 5))
	wantDrop(t, a, 1, 2, 2)
	wantPut(t, a, event(5, 1, 2, 3, 4), event(5, 1, 4, 3, 3), event(5, 1, 2, 3, 2))
	wantAll(t, a, event(5, 1, 2, 3, 4), event(5, 1, 2, 3, 2), event(5, 1, 4, 3, 8), event(5, 1, 4, 3, 6), event(5, 1, 4, 3, 5), event(5, 1, 4, 3, 3))
}

func TestAnAgendaOfOne(t *testing.T) {
	x := event(5, 1, 2, 3, 4)
	a := of(t, x)
	wantAll(t, a, x)
	wantAll(t, a, x) // asked again, it is still there
	wantTaken(t, a, x)
	wantNone(t, a)
	wantPut(t, a, x)
	wantUntil(t, a, 5, x)
	wantNone(t, a)
	wantPut(t, a, x)
	wantDrop(t, a, 1, 2, 1)
	wantNone(t, a)
}

func TestUntil(t *testing.T) {
	events := []api.Event{event(3, 1, 0, 0, 0), event(5, 0, 1, 0, 1), event(5, 2, 0, 0, 2), event(8, 0, 0, 0, 3)}
	for _, one := range []struct {
		time int64
		many int
	}{
		{math.MinInt64, 0}, {-1, 0}, {0, 0}, {2, 0}, {3, 1}, {4, 1}, {5, 3}, {6, 3}, {7, 3}, {8, 4}, {9, 4},
		{lastTime, 4}, {lastTime + 1, 4}, {math.MaxInt64, 4},
	} {
		a := of(t, events[3], events[1], events[0], events[2])
		wantUntil(t, a, one.time, events[:one.many]...)
		wantAll(t, a, events[one.many:]...)
		wantUntil(t, a, one.time)
		wantAll(t, a, events[one.many:]...)
		wantTaken(t, a, events[one.many:]...)
	}
}

func TestUntilTheFirstTimeAndTheLast(t *testing.T) {
	a := of(t, at(lastTime, 1), at(0, 2), at(lastTime-1, 3), at(0, 4), at(1, 5))
	wantUntil(t, a, -1)
	wantUntil(t, a, 0, at(0, 2), at(0, 4))
	wantUntil(t, a, lastTime-2, at(1, 5))
	wantUntil(t, a, lastTime-1, at(lastTime-1, 3))
	wantUntil(t, a, lastTime-1)
	wantUntil(t, a, lastTime, at(lastTime, 1))
	wantNone(t, a)
}

// P10.2

func TestDrop(t *testing.T) {
	events := []api.Event{
		event(1, 1, 2, 0, 0), event(2, 1, 3, 0, 1), event(2, 4, 2, 0, 2), event(3, 1, 2, 5, 3),
		event(3, 2, 1, 0, 4), event(4, 0, 0, 0, 5), event(9, 1, 2, 1, 6),
	}
	for _, one := range []struct {
		kind, node int
		gone       []int
	}{
		{1, 2, []int{0, 3, 6}}, {1, 3, []int{1}}, {4, 2, []int{2}}, {2, 1, []int{4}}, {0, 0, []int{5}},
		{1, 1, nil}, {4, 3, nil}, {0, 2, nil}, {2, 2, nil}, // of a kind, and of a node, but not of both
		{1, 9, nil}, {9, 2, nil}, {9, 9, nil}, // of a kind alone, of a node alone, of none
		{-1, 2, nil}, {1, -1, nil}, {-1, -1, nil}, {math.MinInt, math.MinInt, nil}, {math.MaxInt, math.MaxInt, nil}, {math.MaxInt, 2, nil}, {1, math.MinInt, nil},
	} {
		var left []api.Event
		for n, x := range events {
			if !slices.Contains(one.gone, n) {
				left = append(left, x)
			}
		}
		a := of(t, events[3], events[6], events[0], events[5], events[2], events[1], events[4])
		wantDrop(t, a, one.kind, one.node, len(one.gone))
		wantAll(t, a, left...)
		wantDrop(t, a, one.kind, one.node, 0)
		wantAll(t, a, left...)
		wantTaken(t, a, left...)
		wantNone(t, a)
	}
}

func TestDropOfAll(t *testing.T) {
	a := of(t, event(3, 1, 2, 9, 0), event(1, 1, 2, 9, 0), event(2, 1, 2, 9, 0))
	wantDrop(t, a, 1, 2, 3)
	wantNone(t, a)
	wantPut(t, a, event(2, 1, 2, 0, 0), event(1, 1, 2, 0, 0))
	wantTaken(t, a, event(1, 1, 2, 0, 0), event(2, 1, 2, 0, 0))
}

func TestDropOfTheGreatest(t *testing.T) {
	a := of(t, event(3, math.MaxInt, math.MaxInt, 0, 0), event(1, math.MaxInt, 0, 0, 0))
	wantDrop(t, a, math.MaxInt, math.MaxInt, 1)
	wantAll(t, a, event(1, math.MaxInt, 0, 0, 0))
}

// TestDropsOutOfMany drops in the midst of many: what is left still stands in order.
func TestDropsOutOfMany(t *testing.T) {
	r := rand.New(rand.NewSource(101))
	for range 50 {
		a, d := new(agenda.Agenda), new(diary)
		for value := range int64(300) {
			x := event(r.Int63n(100), r.Intn(3), r.Intn(3), r.Intn(3), value)
			wantPut(t, a, x)
			d.put(x)
		}
		kind, node := r.Intn(3), r.Intn(3)
		wantDrop(t, a, kind, node, d.drop(kind, node))
		wantAll(t, a, d.all()...)
		wantTaken(t, a, d.all()...)
	}
}

func TestAllIsOfTheWhole(t *testing.T) {
	a := new(agenda.Agenda)
	var want []api.Event
	for n := range 200 {
		wantAll(t, a, inOrder(want)...)
		x := event(int64(n*61%97), n%3, n%5, n%7, int64(n))
		wantPut(t, a, x)
		want = append(want, x)
	}
	wantTaken(t, a, inOrder(want)...)
}

func TestACopyGoesOnByItself(t *testing.T) {
	events := []api.Event{at(2, 1), at(4, 2), at(6, 3), at(8, 4)}
	a := of(t, events[2], events[0], events[3], events[1])
	b := a.Copy()
	if b == a {
		t.Error("a copy that is the agenda itself")
	}
	wantAll(t, b, events...)

	wantPut(t, b, at(1, 9), at(5, 9))
	wantTaken(t, b, at(1, 9), at(2, 1))
	wantAll(t, a, events...)
	wantAll(t, b, at(4, 2), at(5, 9), at(6, 3), at(8, 4))

	wantPut(t, a, at(0, 7), at(3, 7))
	wantTaken(t, a, at(0, 7), at(2, 1), at(3, 7), at(4, 2))
	wantAll(t, b, at(4, 2), at(5, 9), at(6, 3), at(8, 4))
	wantDrop(t, a, 0, 0, 2)
	wantAll(t, b, at(4, 2), at(5, 9), at(6, 3), at(8, 4))
	wantUntil(t, b, 7, at(4, 2), at(5, 9), at(6, 3))
	wantNone(t, a)
	wantAll(t, b, at(8, 4))
}

func TestCopiesOfOneThatTurnAndTurn(t *testing.T) {
	a := of(t, at(1, 1))
	for n := range int64(20) { // whatever room there is behind a's events, no copy writes there
		b, c := a.Copy(), a.Copy()
		wantPut(t, b, at(100, 1))
		wantPut(t, c, at(100, 2))
		wantPut(t, a, at(2+n, 0))
		wantUntil(t, b, 99, a.All()[:n+1]...)
		wantUntil(t, c, 99, a.All()[:n+1]...)
		wantAll(t, b, at(100, 1))
		wantAll(t, c, at(100, 2))
	}
	if a.Len() != 21 {
		t.Errorf("%d events, want 21", a.Len())
	}
}

func TestACopyOfAFullOne(t *testing.T) {
	a := full(t)
	b := a.Copy()
	wantNoPut(t, b, at(1, 0))
	wantTaken(t, b, at(1, 0))
	wantPut(t, b, at(0, 0))
	wantNoPut(t, b, at(1, 0))
	wantNoPut(t, a, at(1, 0))
	wantTaken(t, a, at(1, 0))
}

func TestACopyOfNoEvents(t *testing.T) {
	emptied := of(t, at(1, 1))
	wantTaken(t, emptied, at(1, 1))
	for _, a := range []*agenda.Agenda{new(agenda.Agenda), emptied} {
		b := a.Copy()
		if b == nil || b == a {
			t.Fatal("no copy, or the agenda itself")
		}
		wantNone(t, b)
		wantPut(t, b, at(5, 1))
		wantNone(t, a)
		wantPut(t, a, at(3, 2), at(4, 3))
		wantAll(t, b, at(5, 1))
		wantAll(t, a, at(3, 2), at(4, 3))
	}
}

// P10.1, P10.2: the zero agenda, and none

func TestTheZeroAgenda(t *testing.T) {
	var a agenda.Agenda
	wantNone(t, &a)
	wantNone(t, a.Copy())
	for _, x := range wrong() {
		wantNoPut(t, &a, x)
	}
	wantNone(t, &a)
	wantPut(t, &a, event(5, 1, 2, 3, 4))
	wantAll(t, &a, event(5, 1, 2, 3, 4))
	var other agenda.Agenda
	wantNone(t, &other)
}

func TestNone(t *testing.T) {
	var a *agenda.Agenda
	wantNone(t, a)
	if a.Copy() != nil {
		t.Error("a copy of none")
	}
	for _, x := range append(wrong(), at(0, 0), event(5, 1, 2, 3, 4), at(lastTime, 0)) {
		if err := a.Put(x); err != api.ErrNil {
			t.Errorf("put of %+v into none: error %d, want ErrNil", x, err)
		}
	}
	wantNone(t, a)
}

// P10.3

func TestWhatIsAnsweredIsNewMemory(t *testing.T) {
	events := []api.Event{event(3, 1, 0, 0, 0), event(5, 0, 1, 0, 1), event(5, 2, 0, 0, 2), event(8, 0, 0, 0, 3), event(9, 0, 0, 0, 4)}
	a := of(t, events...)
	spoil := func(all []api.Event) {
		for n := range all {
			all[n] = event(-7, -7, -7, -7, -7)
		}
		_ = append(all[:0], make([]api.Event, cap(all))...)
	}
	spoil(a.All())
	wantAll(t, a, events...)
	all := a.All()
	wantUntil(t, a, 3, events[0])
	wantPut(t, a, at(6, 6))
	wantEvents(t, "all, told earlier", all, events)
	wantDrop(t, a, 0, 0, 3)
	wantPut(t, a, events[3], events[4])
	wantEvents(t, "all, told earlier", all, events)

	due := a.Until(5)
	kept := slices.Clone(due)
	wantPut(t, a, at(1, 1), at(2, 2))
	wantTaken(t, a, at(1, 1))
	wantEvents(t, "until, told earlier", due, kept)
	spoil(due)
	wantAll(t, a, at(2, 2), events[3], events[4])

	first, _ := a.First()
	first.Time, first.Value = 77, 77
	taken, _ := a.Take()
	taken.Time, taken.Kind = 99, 99
	wantAll(t, a, events[3], events[4])
}

func TestWhatIsPutInIsOnlyRead(t *testing.T) {
	x := event(5, 1, 2, 3, 4)
	a := of(t, x)
	if x != event(5, 1, 2, 3, 4) {
		t.Errorf("turned into %+v", x)
	}
	x.Time, x.Kind, x.Value = 1, 9, 9
	wantAll(t, a, event(5, 1, 2, 3, 4))
}

func TestAskingChangesNothing(t *testing.T) {
	events := []api.Event{at(1, 1), at(2, 2), at(2, 3), at(3, 4), at(3, 5), at(3, 6), at(4, 7)}
	a := of(t, events[6], events[3], events[1], events[4], events[2], events[5], events[0])
	for range 3 {
		wantAll(t, a, events...)
		wantAll(t, a.Copy(), events...)
		wantUntil(t, a, 0)
		wantDrop(t, a, 1, 0, 0)
	}
	wantTaken(t, a, events...)
}

// P10.4

func TestWhoIsPutInLateButStandsAhead(t *testing.T) {
	a := of(t, event(5, 5, 5, 5, 5), event(9, 0, 0, 0, 0))
	for _, x := range []api.Event{event(5, 5, 5, 4, 9), event(5, 5, 4, 9, 9), event(5, 4, 9, 9, 9), event(4, 9, 9, 9, 9), event(0, 9, 9, 9, 9), event(0, 0, 0, 0, 9)} {
		wantPut(t, a, x)
		wantTaken(t, a.Copy(), x)
		if first, is := a.First(); first != x || !is {
			t.Errorf("first: %+v, want %+v", first, x)
		}
	}
	// Also when something that stands behind it was taken already.
	wantTaken(t, a, event(0, 0, 0, 0, 9), event(0, 9, 9, 9, 9), event(4, 9, 9, 9, 9))
	wantPut(t, a, event(1, 0, 0, 0, 0))
	wantTaken(t, a, event(1, 0, 0, 0, 0), event(5, 4, 9, 9, 9))
	wantUntil(t, a, 5, event(5, 5, 4, 9, 9), event(5, 5, 5, 4, 9), event(5, 5, 5, 5, 5))
	wantPut(t, a, event(2, 0, 0, 0, 0))
	wantTaken(t, a, event(2, 0, 0, 0, 0), event(9, 0, 0, 0, 0))
	wantNone(t, a)
}

// turn does one thing, of any kind, to an agenda and to a diary.
func turn(t *testing.T, r *rand.Rand, a *agenda.Agenda, d *diary, value int64) {
	t.Helper()
	switch what := r.Intn(20); {
	case what < 10:
		x := event(r.Int63n(12)-1, r.Intn(5)-1, r.Intn(5)-1, r.Intn(5)-1, value)
		if err, want := a.Put(x), d.put(x); err != want {
			t.Errorf("put of %+v: error %d, want %d", x, err, want)
		}
	case what < 16:
		if want, is := d.take(); is {
			wantTaken(t, a, want)
		} else {
			wantNone(t, a)
		}
	case what < 18:
		time := r.Int63n(14) - 2
		wantUntil(t, a, time, d.until(time)...)
	default:
		kind, node := r.Intn(5)-1, r.Intn(5)-1
		wantDrop(t, a, kind, node, d.drop(kind, node))
	}
}

func TestWhateverComesBetween(t *testing.T) {
	r := rand.New(rand.NewSource(102))
	for range 60 {
		a, d := new(agenda.Agenda), new(diary)
		for n := range int64(200) {
			turn(t, r, a, d, n/3)
			wantAll(t, a, d.all()...)
			if r.Intn(20) == 0 { // the other one goes on for a while, and is left
				b, e := a.Copy(), d.copy()
				for m := range int64(20) {
					turn(t, r, b, e, m)
					wantAll(t, b, e.all()...)
				}
				wantAll(t, a, d.all()...)
			}
		}
		wantTaken(t, a, d.all()...)
		wantNone(t, a)
		if t.Failed() {
			return
		}
	}
}

// TestEachIsTakenOnce counts: what was put in comes out by take, by until or
// by drop, once.
func TestEachIsTakenOnce(t *testing.T) {
	r := rand.New(rand.NewSource(103))
	for range 20 {
		a := new(agenda.Agenda)
		out, dropped := map[int64]int{}, 0
		many := int64(2000)
		for n := range many {
			wantPut(t, a, event(r.Int63n(1000), r.Intn(3), r.Intn(3), r.Intn(3), n))
			switch r.Intn(8) {
			case 0:
				if x, is := a.Take(); is {
					out[x.Value]++
				}
			case 1:
				for _, x := range a.Until(r.Int63n(100)) {
					out[x.Value]++
				}
			case 2:
				if r.Intn(50) == 0 {
					dropped += a.Drop(r.Intn(3), r.Intn(3))
				}
			}
		}
		for x, is := a.Take(); is; x, is = a.Take() {
			out[x.Value]++
		}
		if len(out)+dropped != int(many) {
			t.Errorf("%d taken, %d dropped, want %d in all", len(out), dropped, many)
		}
		for value, times := range out {
			if times != 1 {
				t.Errorf("event %d was taken %d times", value, times)
			}
		}
	}
}
