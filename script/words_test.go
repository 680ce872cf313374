package script_test

import (
	"encoding/binary"
	"fmt"
	"reflect"

	"vespers/api"
)

// The chapter's words once more: bytes are read one by one, with noughts
// behind them, and written by the library.

// tape has bytes, and noughts behind them.
type tape struct {
	bytes []byte
	at    int
}

func (t *tape) ended() bool { return t.at >= len(t.bytes) }

// folded is a number of so many bytes, less m, as often as it goes.
func (t *tape) folded(width int, m uint64) int64 {
	var n uint64
	for range width {
		n *= 256
		if !t.ended() {
			n += uint64(t.bytes[t.at])
		}
		t.at++
	}
	return int64(n - n/m*m)
}

// payload is so many bytes; it ends where they do.
func (t *tape) payload(many int64) (b []byte) {
	for ; many > 0 && !t.ended(); many-- {
		b = append(b, t.bytes[t.at])
		t.at++
	}
	return b
}

func roundOf(p api.Plan) int64 { return int64(p.Nodes) * p.Slot }

// driftOf is d.
func driftOf(p api.Plan) int64 { return 65536 / p.Rho }

// said is the script that bytes say.
func said(p api.Plan, b []byte) (s api.Script) {
	t, d, nodes := &tape{bytes: b}, driftOf(p), uint64(p.Nodes)
	for range p.Nodes {
		s.Rates = append(s.Rates, api.Rate{Num: 65536 - d + t.folded(4, uint64(2*d+1)), Den: 65536})
		s.On = append(s.On, t.folded(4, uint64(4*roundOf(p)+2))-1)
	}
	for range t.folded(2, 257) {
		s.Delays = append(s.Delays, t.folded(4, uint64(p.Dmax-p.Dmin+1)))
	}
	for !t.ended() {
		if kind := t.folded(1, 4); kind < 3 {
			h := api.Happening{Kind: int(kind)}
			h.Node = int(t.folded(1, nodes))
			h.Time = t.folded(4, uint64(p.Horizon+1))
			if kind == 2 {
				h.Payload = t.payload(t.folded(1, 256))
			}
			s.Happenings = append(s.Happenings, h)
			continue
		}
		var f api.Fault
		f.Sender = int(t.folded(1, nodes))
		f.Nth = int(t.folded(2, 65536))
		f.Receiver = int(t.folded(1, nodes+1))
		f.Channels = 1 + int(t.folded(1, 3))
		f.Cut = t.folded(1, 2) == 1
		s.Faults = append(s.Faults, f)
	}
	s.Happenings = s.Happenings[:min(64, len(s.Happenings))]
	s.Faults = s.Faults[:min(64, len(s.Faults))]
	return s
}

// written are a script's bytes.
func written(p api.Plan, s api.Script) (b []byte) {
	four := func(n int64) { b = binary.BigEndian.AppendUint32(b, uint32(n)) }
	for n, rate := range s.Rates {
		four(rate.Num - 65536 + driftOf(p))
		four(s.On[n] + 1)
	}
	b = binary.BigEndian.AppendUint16(b, uint16(len(s.Delays)))
	for _, d := range s.Delays {
		four(d)
	}
	for _, h := range s.Happenings {
		b = append(b, byte(h.Kind), byte(h.Node))
		four(h.Time)
		if h.Kind == 2 {
			b = append(append(b, byte(len(h.Payload))), h.Payload...)
		}
	}
	for _, f := range s.Faults {
		b = append(b, 3, byte(f.Sender))
		b = binary.BigEndian.AppendUint16(b, uint16(f.Nth))
		b = append(b, byte(f.Receiver), byte(f.Channels-1), map[bool]byte{true: 1}[f.Cut])
	}
	return b
}

func fromTo(n, least, most int64) bool { return least <= n && n <= most }

// mayBe says whether a script may be, by the words, for a plan that may be.
func mayBe(p api.Plan, s api.Script) bool {
	nodes, d := int64(p.Nodes), driftOf(p)
	fine := len(s.Rates) == p.Nodes && len(s.On) == p.Nodes && len(s.Delays) <= 256 && len(s.Happenings) <= 64 && len(s.Faults) <= 64
	for _, r := range s.Rates {
		fine = fine && r.Den == 65536 && fromTo(r.Num, 65536-d, 65536+d)
	}
	for _, on := range s.On {
		fine = fine && fromTo(on, -1, 4*roundOf(p))
	}
	for _, delay := range s.Delays {
		fine = fine && fromTo(delay, 0, p.Dmax-p.Dmin)
	}
	for _, h := range s.Happenings {
		fine = fine && fromTo(int64(h.Kind), 0, 2) && fromTo(int64(h.Node), 0, nodes-1) && fromTo(h.Time, 0, p.Horizon)
		fine = fine && len(h.Payload) <= map[int]int{2: 255}[h.Kind]
	}
	for _, f := range s.Faults {
		fine = fine && fromTo(int64(f.Sender), 0, nodes-1) && fromTo(int64(f.Nth), 0, 65535)
		fine = fine && fromTo(int64(f.Receiver), 0, nodes) && fromTo(int64(f.Channels), 1, 3)
	}
	return fine
}

// arrival is a frame at a receiver on a channel.
type arrival struct{ sender, nth, receiver, channel int }

func delayOf(p api.Plan, s api.Script, a arrival) int64 {
	if len(s.Delays) == 0 {
		return p.Dmin
	}
	nodes := uint64(p.Nodes)
	number := ((uint64(a.nth)*nodes+uint64(a.sender))*nodes+uint64(a.receiver))*2 + uint64(a.channel)
	return p.Dmin + s.Delays[number%uint64(len(s.Delays))]
}

func heardOf(p api.Plan, s api.Script, a arrival) int {
	lost, cut := false, false
	for _, f := range s.Faults {
		for _, receiver := range []int{a.receiver, p.Nodes} {
			for _, channels := range [][]int{{1, 3}, {2, 3}}[a.channel] {
				lost = lost || f == api.Fault{Sender: a.sender, Nth: a.nth, Receiver: receiver, Channels: channels}
				cut = cut || f == api.Fault{Sender: a.sender, Nth: a.nth, Receiver: receiver, Channels: channels, Cut: true}
			}
		}
	}
	switch {
	case lost:
		return 2
	case cut:
		return 1
	}
	return 0
}

// lean is a script whose lists that are empty are nil.
func lean(s api.Script) api.Script {
	some := api.Script{
		Rates:  append([]api.Rate(nil), s.Rates...),
		On:     append([]int64(nil), s.On...),
		Delays: append([]int64(nil), s.Delays...),
		Faults: append([]api.Fault(nil), s.Faults...),
	}
	for _, h := range s.Happenings {
		h.Payload = append([]byte(nil), h.Payload...)
		some.Happenings = append(some.Happenings, h)
	}
	return some
}

// alike says whether both are the same, by all that they have.
func alike(a, b api.Script) bool { return reflect.DeepEqual(lean(a), lean(b)) }

// text tells a script whole; lists that are nil and lists that are empty look
// the same there.
func text(s api.Script) string { return fmt.Sprintf("%+v", s) }
