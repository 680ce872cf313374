package bus

import (
	"bytes"
	"iter"
	"sort"

	"vespers/api"
)

const channels = 2

// sending is what a node sends, and when. One that did not pass is no frame
// anywhere: it has neither bytes nor fates.
type sending struct {
	from  int
	at    int64
	raw   []byte
	fates [channels][]api.Fate // of each channel, one of each node
}

// fate is that of the sending's frame at a node on a channel, and whether the
// frame is there.
func (s *sending) fate(node, channel int) (api.Fate, bool) {
	if channel < 0 || channel >= len(s.fates) || node < 0 || node >= len(s.fates[channel]) {
		return api.Fate{}, false
	}
	fate := s.fates[channel][node]
	return fate, !fate.Lost
}

// heard is the bytes of the sending's frame, as they are heard.
func (s *sending) heard(fate api.Fate) []byte {
	end := len(s.raw)
	if fate.Cut {
		end = max(end-1, 0)
	}
	return bytes.Clone(s.raw[:end])
}

// log is the sendings of a plan, as they came; when the last one came; and
// from when on the guardian lets one pass.
type log struct {
	plan     api.Plan
	sendings []sending
	last     int64
	opens    int64
}

// hasNode says whether there is such a node.
func (l *log) hasNode(node int) bool { return node >= 0 && node < l.plan.Nodes }

// mayCome says whether the next sending may come at that time.
func (l *log) mayCome(at int64) bool { return at >= l.last && at <= api.MaxTime }

// passes says whether the guardian lets a sending pass that comes then.
func (l *log) passes(at int64) bool { return at >= l.opens }

// mayBefall says whether fates may be those of a frame.
func (l *log) mayBefall(fates []api.Fate) bool {
	if len(fates) > channels*l.plan.Nodes {
		return false
	}
	for _, fate := range fates {
		if fate.Delay < l.plan.Dmin || fate.Delay > l.plan.Dmax {
			return false
		}
	}
	return true
}

// spread is a frame's fates, those that were told and those that were not, by
// channels. Its sender is one at which it is lost: so it does not hear itself.
func (l *log) spread(from int, told []api.Fate) (all [channels][]api.Fate) {
	for channel := range all {
		all[channel] = make([]api.Fate, l.plan.Nodes)
		for node := range all[channel] {
			fate := api.Fate{Delay: l.plan.Dmin}
			if place := channel*l.plan.Nodes + node; place < len(told) {
				fate = told[place]
			}
			fate.Lost = fate.Lost || node == from
			all[channel][node] = fate
		}
	}
	return all
}

// add puts a sending behind the others; it tells its number.
func (l *log) add(s sending, passed bool) int {
	if passed {
		l.opens = s.at + l.plan.Slot/2
	}
	l.last = s.at
	l.sendings = append(l.sendings, s)
	return len(l.sendings) - 1
}

// sends says whether a node sends while a frame is there that began then. Both
// last for Air: so it does, if they begin less than Air apart.
func (l *log) sends(node int, begin int64) bool {
	sends := false
asking:
	for s := range l.within(begin-l.plan.Air+1, begin+l.plan.Air-1) {
		if s.from == node {
			sends = true
			break asking
		}
	}
	return sends
}

// within tells the sendings that came from a first time to a last one.
func (l *log) within(first, last int64) iter.Seq[*sending] {
	return func(yield func(*sending) bool) {
		came := func(n int) bool { return l.sendings[n].at >= first }
		falls := func(n int) bool { return n < len(l.sendings) && l.sendings[n].at <= last }
		// They stand by their times, so that those of long ago need not be met.
		for n := sort.Search(len(l.sendings), came); falls(n); n++ {
			if !yield(&l.sendings[n]) {
				return
			}
		}
	}
}
