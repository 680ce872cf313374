package octet_test

import (
	"bytes"
	"encoding/binary"
	"math"
	"math/rand"
	"testing"

	"vespers/octet"
)

var widths = []int{1, 2, 4, 8}

var noWidths = []int{math.MinInt, -8, -2, -1, 0, 3, 5, 6, 7, 9, 16, 32, 64, 1 << 32, math.MaxInt}

// greatest is the greatest number of a width.
func greatest(width int) uint64 { return math.MaxUint64 >> (64 - 8*width) }

// written is what binary.BigEndian makes of n, in so many bytes.
func written(width int, n uint64) []byte {
	return binary.BigEndian.AppendUint64(nil, n)[8-width:]
}

func wantOut(t *testing.T, o *octet.Out, want []byte) {
	t.Helper()
	if o.Spoilt() || o.Len() != len(want) || !bytes.Equal(o.All(), want) {
		t.Errorf("has % x (%d), spoilt %v; want % x", o.All(), o.Len(), o.Spoilt(), want)
	}
}

func wantSpoiltOut(t *testing.T, o *octet.Out) {
	t.Helper()
	if !o.Spoilt() || o.Len() != 0 || len(o.All()) != 0 {
		t.Errorf("has % x (%d), spoilt %v; want a spoilt one", o.All(), o.Len(), o.Spoilt())
	}
}

func wantIn(t *testing.T, i *octet.In, left int) {
	t.Helper()
	if i.Spoilt() || i.Left() != left || i.Done() != (left == 0) {
		t.Errorf("left %d, spoilt %v, done %v; want %d left", i.Left(), i.Spoilt(), i.Done(), left)
	}
}

func wantSpoiltIn(t *testing.T, i *octet.In) {
	t.Helper()
	if !i.Spoilt() || i.Left() != 0 || i.Done() {
		t.Errorf("left %d, spoilt %v, done %v; want a spoilt one", i.Left(), i.Spoilt(), i.Done())
	}
}

// The chapter's examples.

func TestExamples(t *testing.T) {
	var o octet.Out
	wantOut(t, o.Put(2, 258).Put(1, 7).Tail([]byte("ab")), []byte{1, 2, 7, 0x61, 0x62})

	var above, three octet.Out
	wantSpoiltOut(t, above.Put(1, 256))
	wantSpoiltOut(t, three.Put(3, 0))

	i := octet.From([]byte{1, 2})
	if a, b := i.Get(1), i.Get(1); a != 1 || b != 2 || !i.Done() {
		t.Errorf("read %d, %d, done %v", a, b, i.Done())
	}
	if n := i.Get(1); n != 0 {
		t.Errorf("read %d beyond the end", n)
	}
	wantSpoiltIn(t, i)
}

// P1.1

func TestPutEachWidth(t *testing.T) {
	for _, w := range widths {
		top := greatest(w)
		for _, n := range []uint64{0, 1, 0x7f, 0x80, 0xff, top / 2, top/2 + 1, top - 1, top, 0x0102030405060708 & top, 0xf1f2f3f4f5f6f7f8 & top} {
			var o octet.Out
			wantOut(t, o.Put(w, n), written(w, n))
		}
	}
}

func TestPutAboveTheGreatest(t *testing.T) {
	for _, w := range []int{1, 2, 4} {
		for _, n := range []uint64{greatest(w) + 1, greatest(w) + 2, 1 << 63, math.MaxUint64} {
			var o octet.Out
			wantSpoiltOut(t, o.Put(1, 9).Put(w, n))
		}
	}
}

func TestPutNoWidth(t *testing.T) {
	for _, w := range noWidths {
		for _, n := range []uint64{0, 1, math.MaxUint64} {
			var o octet.Out
			wantSpoiltOut(t, o.Put(w, n))
		}
	}
}

func TestTail(t *testing.T) {
	var o octet.Out
	wantOut(t, o.Tail(nil), nil)
	wantOut(t, o.Tail([]byte{}), nil)
	wantOut(t, o.Tail([]byte{0, 255}), []byte{0, 255})
	wantOut(t, o.Tail(nil), []byte{0, 255})
	wantOut(t, o.Tail([]byte{7}), []byte{0, 255, 7})
	long := bytes.Repeat([]byte{1, 2, 3}, 100000)
	wantOut(t, o.Tail(long), append([]byte{0, 255, 7}, long...))
}

func TestOutAnswersItself(t *testing.T) {
	var o octet.Out
	if o.Put(1, 1) != &o || o.Tail([]byte{2}) != &o || o.Put(1, 256) != &o || o.Put(1, 1) != &o || o.Tail(nil) != &o {
		t.Error("another Out")
	}
}

func TestZeroOut(t *testing.T) {
	var o octet.Out
	wantOut(t, &o, nil)
	wantOut(t, new(octet.Out), nil)
}

func TestSpoiltOutStaysSo(t *testing.T) {
	var o octet.Out
	o.Put(4, 5).Put(2, 65536)
	wantSpoiltOut(t, &o)
	wantSpoiltOut(t, o.Put(1, 1))
	wantSpoiltOut(t, o.Put(0, 1))
	wantSpoiltOut(t, o.Tail([]byte{1}))
	wantSpoiltOut(t, o.Tail(nil))
}

func TestNoOut(t *testing.T) {
	var o *octet.Out
	wantSpoiltOut(t, o)
	if o.Put(1, 1) != nil || o.Put(3, 1) != nil || o.Tail([]byte{1}) != nil || o.Tail(nil) != nil {
		t.Error("an Out where there is none")
	}
}

// P1.2

func TestFrom(t *testing.T) {
	wantIn(t, octet.From(nil), 0)
	wantIn(t, octet.From([]byte{}), 0)
	wantIn(t, octet.From([]byte{0}), 1)
	wantIn(t, octet.From(make([]byte, 1000)), 1000)
}

func TestGetEachWidth(t *testing.T) {
	all := []byte{0xf1, 0xf2, 0xf3, 0xf4, 0xf5, 0xf6, 0xf7, 0xf8, 0xf9}
	for _, w := range widths {
		i := octet.From(all)
		if n := i.Get(w); !bytes.Equal(written(w, n), all[:w]) {
			t.Errorf("width %d: read %x", w, n)
		}
		wantIn(t, i, len(all)-w)
		just := octet.From(all[:w])
		just.Get(w)
		wantIn(t, just, 0)
		for lack := range w {
			few := octet.From(all[:lack])
			if n := few.Get(w); n != 0 {
				t.Errorf("width %d of %d bytes: read %x", w, lack, n)
			}
			wantSpoiltIn(t, few)
		}
	}
}

func TestGetNoWidth(t *testing.T) {
	for _, w := range noWidths {
		i := octet.From(bytes.Repeat([]byte{9}, 100))
		if n := i.Get(w); n != 0 {
			t.Errorf("width %d: read %x", w, n)
		}
		wantSpoiltIn(t, i)
	}
}

func TestTake(t *testing.T) {
	i := octet.From([]byte{1, 2, 3, 4})
	for _, c := range []struct {
		n    int
		want []byte
		left int
	}{{0, nil, 4}, {1, []byte{1}, 3}, {2, []byte{2, 3}, 1}, {0, nil, 1}, {1, []byte{4}, 0}, {0, nil, 0}} {
		if b := i.Take(c.n); !bytes.Equal(b, c.want) {
			t.Errorf("took % x, want % x", b, c.want)
		}
		wantIn(t, i, c.left)
	}
}

func TestTakeWhatIsNotLeft(t *testing.T) {
	for _, n := range []int{math.MinInt, -1, 4, 5, math.MaxInt} {
		i := octet.From([]byte{1, 2, 3})
		if b := i.Take(n); len(b) != 0 {
			t.Errorf("took % x", b)
		}
		wantSpoiltIn(t, i)
	}
	none := octet.From(nil)
	none.Take(1)
	wantSpoiltIn(t, none)
}

func askSpoiltIn(t *testing.T, i *octet.In) {
	t.Helper()
	wantSpoiltIn(t, i)
	for _, w := range append(noWidths, widths...) {
		if n := i.Get(w); n != 0 {
			t.Errorf("width %d: a spoilt In reads %d", w, n)
		}
	}
	for _, n := range []int{-1, 0, 1, math.MaxInt} {
		if b := i.Take(n); len(b) != 0 {
			t.Errorf("a spoilt In has % x", b)
		}
	}
	wantSpoiltIn(t, i)
}

func TestSpoiltInStaysSo(t *testing.T) {
	i := octet.From([]byte{1, 2, 3, 4})
	i.Get(3)
	askSpoiltIn(t, i)
	j := octet.From([]byte{1, 2, 3, 4})
	j.Take(5)
	askSpoiltIn(t, j)
	k := octet.From([]byte{1, 2, 3, 4})
	k.Get(8)
	askSpoiltIn(t, k)
}

func TestInThatNobodyMade(t *testing.T) {
	var i octet.In
	askSpoiltIn(t, &i)
	askSpoiltIn(t, new(octet.In))
}

func TestNoIn(t *testing.T) {
	var i *octet.In
	askSpoiltIn(t, i)
}

// P1.3

func TestTailDoesNotKeep(t *testing.T) {
	b := make([]byte, 2, 8)
	b[0], b[1] = 1, 2
	var o octet.Out
	o.Tail(b)
	b[0] = 9
	wantOut(t, &o, []byte{1, 2})
	o.Put(1, 3)
	if room := b[:8]; !bytes.Equal(room, []byte{9, 2, 0, 0, 0, 0, 0, 0}) {
		t.Errorf("handed in, and written: % x", room)
	}
}

func TestAllIsNewMemory(t *testing.T) {
	var o octet.Out
	a := o.Put(4, 0x01020304).All()
	a[0] = 9
	wantOut(t, &o, []byte{1, 2, 3, 4})
	_ = append(a, 8)
	o.Put(1, 5)
	if !bytes.Equal(a, []byte{9, 2, 3, 4}) {
		t.Errorf("answered, and changed: % x", a)
	}
	wantOut(t, &o, []byte{1, 2, 3, 4, 5})
	room := o.All()
	copy(room[:cap(room)], bytes.Repeat([]byte{7}, cap(room)))
	wantOut(t, o.Put(1, 6), []byte{1, 2, 3, 4, 5, 6})
}

func TestFromDoesNotKeep(t *testing.T) {
	b := []byte{1, 2, 3}
	i := octet.From(b)
	b[0], b[1] = 8, 9
	if n := i.Get(1); n != 1 {
		t.Errorf("read %d", n)
	}
	if got := i.Take(2); !bytes.Equal(got, []byte{2, 3}) {
		t.Errorf("took % x", got)
	}
	if !bytes.Equal(b, []byte{8, 9, 3}) {
		t.Errorf("handed in, and written: % x", b)
	}
}

func TestTakeIsNewMemory(t *testing.T) {
	b := []byte{1, 2, 3, 4}
	i := octet.From(b)
	first := i.Take(2)
	first[0] = 9
	_ = append(first, 9, 9)
	if n := i.Get(1); n != 3 {
		t.Errorf("read %d behind what was taken", n)
	}
	if !bytes.Equal(b, []byte{1, 2, 3, 4}) {
		t.Errorf("handed in, and written: % x", b)
	}
}

func TestCopiedOutGoesOnAlone(t *testing.T) {
	var o octet.Out
	o.Put(2, 0x0102).Put(1, 3)
	p := o
	p.Put(1, 4)
	o.Put(2, 0x0506)
	q := p
	p = o
	p.Tail([]byte{7})
	o.Tail([]byte{8, 9})
	q.Put(1, 10)
	wantOut(t, &o, []byte{1, 2, 3, 5, 6, 8, 9})
	wantOut(t, &p, []byte{1, 2, 3, 5, 6, 7})
	wantOut(t, &q, []byte{1, 2, 3, 4, 10})
	r := o
	wantSpoiltOut(t, o.Put(0, 0))
	wantOut(t, &r, []byte{1, 2, 3, 5, 6, 8, 9})
}

func TestCopiedInGoesOnAlone(t *testing.T) {
	i := octet.From([]byte{1, 2, 3})
	i.Get(1)
	j := *i
	i.Get(3)
	wantSpoiltIn(t, i)
	wantIn(t, &j, 2)
	if n := j.Get(2); n != 0x0203 {
		t.Errorf("read %x", n)
	}
}

// P1.4

// piece is a number of a width, or bytes (width 0).
type piece struct {
	width int
	n     uint64
	b     []byte
}

func somePieces(r *rand.Rand) []piece {
	l := make([]piece, r.Intn(20))
	for at := range l {
		if w := r.Intn(len(widths) + 1); w < len(widths) {
			l[at] = piece{width: widths[w], n: r.Uint64() & greatest(widths[w]) >> r.Intn(64)}
		} else {
			l[at].b = make([]byte, r.Intn(40))
			r.Read(l[at].b)
		}
	}
	return l
}

func writePieces(l []piece) (o octet.Out, want []byte) {
	for _, p := range l {
		if p.width > 0 {
			o.Put(p.width, p.n)
			want = append(want, written(p.width, p.n)...)
		} else {
			o.Tail(p.b)
			want = append(want, p.b...)
		}
	}
	return o, want
}

// readPieces says whether an In tells them.
func readPieces(i *octet.In, l []piece) bool {
	for _, p := range l {
		if p.width > 0 && i.Get(p.width) != p.n {
			return false
		}
		if p.width == 0 && !bytes.Equal(i.Take(len(p.b)), p.b) {
			return false
		}
	}
	return true
}

func TestWhatWasWrittenIsRead(t *testing.T) {
	r := rand.New(rand.NewSource(1))
	for range 2000 {
		l := somePieces(r)
		o, want := writePieces(l)
		wantOut(t, &o, want)
		i := octet.From(o.All())
		if !readPieces(i, l) {
			t.Fatalf("%v is not read as it was written", l)
		}
		wantIn(t, i, 0)
		if w := widths[r.Intn(len(widths))]; i.Get(w) != 0 {
			t.Errorf("width %d is read behind the end", w)
		}
		wantSpoiltIn(t, i)
	}
}

func TestWhoHasReadLessIsNotDone(t *testing.T) {
	l := []piece{{width: 1, n: 255}, {width: 2, n: 256}, {b: []byte("vesper")}, {width: 4, n: 1 << 31}, {width: 8, n: 1 << 63}}
	o, all := writePieces(l)
	for many := range l {
		i := octet.From(o.All())
		if !readPieces(i, l[:many]) {
			t.Errorf("the first %d are not read as they were written", many)
		}
		_, read := writePieces(l[:many])
		wantIn(t, i, len(all)-len(read))
	}
}

func TestWhoReadsMoreIsSpoilt(t *testing.T) {
	for _, w := range widths {
		var o octet.Out
		i := octet.From(o.Put(w, 1).All())
		i.Get(w)
		i.Take(1)
		wantSpoiltIn(t, i)
		j := octet.From(o.All())
		j.Take(w + 1)
		wantSpoiltIn(t, j)
	}
}
