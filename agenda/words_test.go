package agenda_test

import (
	"slices"

	"vespers/api"
)

// The chapter's words once more: events in the order in which they were put
// in, sorted anew whenever something is asked, and no heap.

// lastTime is the last one that an event may have, and mostEvents how many
// there may be.
const (
	lastTime   = 4294967296
	mostEvents = 65536
)

// diary has events, as they were put in.
type diary struct{ events []api.Event }

// mayBe says whether an event may be.
func mayBe(x api.Event) bool {
	return 0 <= x.Time && x.Time <= lastTime && 0 <= x.Kind && 0 <= x.Node && 0 <= x.Number
}

// rank is what events stand in order by.
func rank(x api.Event) []int64 {
	return []int64{x.Time, int64(x.Kind), int64(x.Node), int64(x.Number)}
}

func inOrder(events []api.Event) []api.Event {
	sorted := slices.Clone(events)
	slices.SortStableFunc(sorted, func(a, b api.Event) int { return slices.Compare(rank(a), rank(b)) })
	return sorted
}

func (d *diary) put(x api.Event) api.Errno {
	if !mayBe(x) || len(d.events) >= mostEvents {
		return api.ErrAgenda
	}
	d.events = append(d.events, x)
	return api.OK
}

func (d *diary) all() []api.Event { return inOrder(d.events) }

func (d *diary) first() (api.Event, bool) {
	if len(d.events) == 0 {
		return api.Event{}, false
	}
	return d.all()[0], true
}

// take takes the first one: of those that are the same in all, it does not
// matter which one goes.
func (d *diary) take() (api.Event, bool) {
	x, is := d.first()
	if is {
		at := slices.Index(d.events, x)
		d.events = slices.Delete(d.events, at, at+1)
	}
	return x, is
}

// without takes all of which something holds, and is they, in order.
func (d *diary) without(holds func(x api.Event) bool) []api.Event {
	var gone, left []api.Event
	for _, x := range d.events {
		if holds(x) {
			gone = append(gone, x)
		} else {
			left = append(left, x)
		}
	}
	d.events = left
	return inOrder(gone)
}

func (d *diary) until(time int64) []api.Event {
	return d.without(func(x api.Event) bool { return x.Time <= time })
}

func (d *diary) drop(kind, node int) int {
	return len(d.without(func(x api.Event) bool { return x.Kind == kind && x.Node == node }))
}

func (d *diary) copy() *diary { return &diary{slices.Clone(d.events)} }
