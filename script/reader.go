package script

import (
	"iter"

	"vespers/api"
	"vespers/octet"
)

// reader reads bytes, and noughts behind their end.
type reader struct{ *octet.In }

// entry is what one says that stands behind the delays: a fault, or a
// happening, by its kind.
type entry struct {
	kind      int64
	happening api.Happening
	fault     api.Fault
}

// number is the one that stands next. The In itself would be spoilt by bytes
// that there are not: so it is given them.
func (r *reader) number(width int) int64 {
	if lack := width - r.Left(); lack > 0 {
		r.In = octet.From(append(r.Take(r.Left()), make([]byte, lack)...))
	}
	return int64(r.Get(width))
}

// payload is the next bytes, so many, or as many as there are.
func (r *reader) payload(many int64) []byte { return r.Take(min(int(many), r.Left())) }

// folding is how the next number is read: whatever it is, what comes of it
// lies in its span.
func (r *reader) folding() func(x span) int64 {
	return func(x span) int64 { return x.least + r.number(x.width)%(x.most-x.least+1) }
}

// entries tells what stands up to the end, entry by entry.
func (r *reader) entries(of *spans) iter.Seq[entry] {
	return func(yield func(entry) bool) {
		next := r.folding()
		for r.Left() > 0 {
			x := entry{kind: next(of.kind)}
			if x.kind == kindFault {
				x.fault = r.fault(of)
			} else {
				x.happening = r.happening(int(x.kind), of)
			}
			if !yield(x) {
				return
			}
		}
	}
}

// happening is the one of that kind whose numbers stand next.
func (r *reader) happening(kind int, of *spans) (h api.Happening) {
	next := r.folding()
	h.Kind = kind
	h.Node = int(next(of.node))
	h.Time = next(of.time)
	if kind == api.HapSubmit {
		h.Payload = r.payload(next(of.payload))
	}
	return h
}

// fault is the one whose numbers stand next.
func (r *reader) fault(of *spans) (f api.Fault) {
	next := r.folding()
	f.Sender = int(next(of.node))
	f.Nth = int(next(of.nth))
	f.Receiver = int(next(of.receiver))
	f.Channels = int(next(of.channels))
	f.Cut = next(of.cut) == 1
	return f
}
