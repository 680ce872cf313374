package bus_test

import (
	"bytes"
	"slices"

	"vespers/api"
)

// The chapter's words once more: everything is asked of all sendings, from the
// first one on, and of times tick by tick.

// lastTime is the last one at which anything may be sent.
const lastTime = 4294967296

// sent is a sending that came.
type sent struct {
	from  int
	at    int64
	raw   []byte
	fates []api.Fate
}

// ether is a plan's sendings.
type ether struct {
	plan api.Plan
	all  []sent
}

// ticks are so many, from one on.
func ticks(from, many int64) (all []int64) {
	for n := range many {
		all = append(all, from+n)
	}
	return all
}

// passings says of each sending whether it passes.
func (e *ether) passings() (all []bool) {
	var last []int64 // the times of those that passed
	for _, s := range e.all {
		passes := len(last) == 0 || s.at-last[len(last)-1] >= e.plan.Slot/2
		if passes {
			last = append(last, s.at)
		}
		all = append(all, passes)
	}
	return all
}

// mayCome says whether that may be the next sending.
func (e *ether) mayCome(s sent) bool {
	fine := 0 <= s.from && s.from < e.plan.Nodes && 0 <= s.at && s.at <= lastTime && len(s.fates) <= 2*e.plan.Nodes
	for _, other := range e.all {
		fine = fine && other.at <= s.at
	}
	for _, fate := range s.fates {
		fine = fine && e.plan.Dmin <= fate.Delay && fate.Delay <= e.plan.Dmax
	}
	return fine
}

func (e *ether) send(s sent) (id int, passed bool, err api.Errno) {
	if !e.mayCome(s) {
		return 0, false, api.ErrBus
	}
	s.raw, s.fates = slices.Clone(s.raw), slices.Clone(s.fates)
	e.all = append(e.all, s)
	return len(e.all) - 1, e.passings()[len(e.all)-1], api.OK
}

// free says whether a sending that came then would pass.
func (e *ether) free(at int64) bool {
	more := ether{e.plan, slices.Clone(e.all)}
	_, passed, _ := more.send(sent{at: at})
	return passed
}

// fate is that of a sending's frame at a node on a channel.
func (e *ether) fate(id, receiver, channel int) api.Fate {
	if place := channel*e.plan.Nodes + receiver; place < len(e.all[id].fates) {
		return e.all[id].fates[place]
	}
	return api.Fate{Delay: e.plan.Dmin}
}

// there says when a sending's frame begins at a node on a channel, and whether
// it is there.
func (e *ether) there(id, receiver, channel int) (begin int64, is bool) {
	if id < 0 || id >= len(e.all) || receiver < 0 || receiver >= e.plan.Nodes || channel < 0 || channel > 1 {
		return 0, false
	}
	fate := e.fate(id, receiver, channel)
	return e.all[id].at + fate.Delay, e.passings()[id] && !fate.Lost && receiver != e.all[id].from
}

func (e *ether) due(id int) (all []api.Due) {
	for channel := range 2 {
		for receiver := range e.plan.Nodes {
			if begin, is := e.there(id, receiver, channel); is {
				all = append(all, api.Due{Receiver: receiver, Channel: channel, At: begin + e.plan.Air})
			}
		}
	}
	return all
}

func (e *ether) take(id, receiver, channel int) (api.Heard, bool) {
	begin, is := e.there(id, receiver, channel)
	if !is {
		return api.Heard{}, false
	}
	for _, s := range e.all {
		if s.from != receiver || s.at > begin+e.plan.Air || s.at < begin-e.plan.Air {
			continue // its ticks are far off
		}
		for _, tick := range ticks(s.at, e.plan.Air) {
			if slices.Contains(ticks(begin, e.plan.Air), tick) {
				return api.Heard{}, false
			}
		}
	}
	s := e.all[id]
	raw := bytes.Clone(s.raw)
	if e.fate(id, receiver, channel).Cut && len(raw) > 0 {
		raw = slices.Delete(raw, len(raw)-1, len(raw))
	}
	return api.Heard{From: s.from, Channel: channel, Arrive: begin, Bytes: raw}, true
}
