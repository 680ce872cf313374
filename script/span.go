package script

import (
	"vespers/api"
	"vespers/plan"
)

// span is from which number to which one something may be. In bytes, of which
// it has width, it is told by how far it is above the least one.
type span struct {
	width       int
	least, most int64
}

// spans are those of the scripts of a plan, for so many nodes.
type spans struct {
	nodes                        int
	rate, on, delays, delay      span
	kind, node, time, payload    span
	nth, receiver, channels, cut span
}

// spansOf are those of a plan that may be.
func spansOf(p api.Plan) *spans {
	drift := api.MaxDen / p.Rho
	return &spans{
		nodes:    p.Nodes,
		rate:     span{4, api.MaxDen - drift, api.MaxDen + drift},
		on:       span{4, -1, onRounds * plan.Round(p)},
		delays:   span{2, 0, api.MaxDelays},
		delay:    span{4, 0, p.Dmax - p.Dmin},
		kind:     span{1, 0, kindFault},
		node:     span{1, 0, int64(p.Nodes) - 1},
		time:     span{4, 0, p.Horizon},
		payload:  span{1, 0, mostPayload},
		nth:      span{2, 0, mostNth},
		receiver: span{1, 0, int64(p.Nodes)},
		channels: span{1, 1, 3},
		cut:      span{1, 0, 1},
	}
}

// has says whether n may be.
func (x span) has(n int64) bool { return n >= x.least && n <= x.most }

// hold says whether a script may be.
func (of *spans) hold(s api.Script) bool {
	return len(s.Rates) == of.nodes && len(s.On) == of.nodes &&
		of.delays.has(int64(len(s.Delays))) &&
		len(s.Happenings) <= api.MaxHappen && len(s.Faults) <= api.MaxFaults &&
		all(s.Rates, of.holdRate) &&
		all(s.On, of.on.has) &&
		all(s.Delays, of.delay.has) &&
		all(s.Happenings, of.holdHappening) &&
		all(s.Faults, of.holdFault)
}

func (of *spans) holdRate(r api.Rate) bool { return r.Den == api.MaxDen && of.rate.has(r.Num) }

func (of *spans) holdHappening(h api.Happening) bool {
	return h.Kind >= api.HapCrash && h.Kind <= api.HapSubmit &&
		of.node.has(int64(h.Node)) && of.time.has(h.Time) &&
		of.payload.has(int64(len(h.Payload))) && (h.Kind == api.HapSubmit || len(h.Payload) == 0)
}

func (of *spans) holdFault(f api.Fault) bool {
	return of.node.has(int64(f.Sender)) && of.nth.has(int64(f.Nth)) &&
		of.receiver.has(int64(f.Receiver)) && of.channels.has(int64(f.Channels))
}

// all says whether something holds of each one of a list.
func all[T any](list []T, holds func(x T) bool) bool {
	for _, x := range list {
		if !holds(x) {
			return false
		}
	}
	return true
}
