package frame_test

import (
	"bytes"
	"encoding/binary"
	"math"
	"math/rand"
	"slices"
	"testing"

	"vespers/api"
	"vespers/frame"
)

// What frames are made of, with the edges of each.
var (
	kinds   = []int{api.FrameN, api.FrameI, api.FrameX, api.FrameC}
	noKinds = []int{math.MinInt, -1 << 32, -256, -255, -4, -2, -1, 0, 5, 6, 7, 8, 255, 256, 257, 258, 259, 260, 1 << 16, 1<<32 + 1, math.MaxInt}
	states  = []api.Cstate{
		{},
		{Round: 258, Slot: 3, Mode: 1, Vector: 0x0101},
		{Round: 1},
		{Slot: 15},
		{Mode: api.MaxMode},
		{Vector: 0xFFFF},
		{Vector: 1},
		{Vector: 0x8000},
		{Round: api.MaxRound, Slot: 15, Mode: api.MaxMode, Vector: 0xFFFF},
		{Round: 0x01020304, Slot: 5, Mode: 6, Vector: 0x0708},
	}
	noStates = []api.Cstate{
		{Round: -1}, {Round: api.MaxRound + 1}, {Round: 1 << 32}, {Round: math.MinInt}, {Round: math.MaxInt},
		{Slot: -1}, {Slot: 16}, {Slot: 255}, {Slot: 256}, {Slot: math.MinInt}, {Slot: math.MaxInt},
		{Mode: -1}, {Mode: 8}, {Mode: 256}, {Mode: math.MinInt}, {Mode: math.MaxInt},
		{Round: -1, Slot: 16, Mode: 8, Vector: 0xFFFF},
	}
	lengths = []int{0, 1, 2, 3, 7, 8, 9, 254, 255, 256, 257, 511, 512, 1022, 1023, 1024}
)

// data are so many bytes, no two next to one another alike.
func data(n int) []byte {
	b := make([]byte, n)
	for i := range b {
		b[i] = byte(i*7 + i>>8 + 1)
	}
	return b
}

// some are frames that may be: each kind, with all that it may have.
func some() []api.Frame {
	var l []api.Frame
	for _, c := range states {
		l = append(l, api.Frame{Kind: api.FrameI, Cstate: c})
		l = append(l, api.Frame{Kind: api.FrameI, Cstate: c, Data: []byte{}})
		for _, n := range lengths {
			l = append(l, api.Frame{Kind: api.FrameN, Cstate: c, Data: data(n)})
			l = append(l, api.Frame{Kind: api.FrameX, Cstate: c, Data: data(n)})
		}
		l = append(l, api.Frame{Kind: api.FrameN, Cstate: c}, api.Frame{Kind: api.FrameX, Cstate: c})
	}
	for slot := range api.MaxNodes {
		l = append(l, cold(slot))
	}
	return append(l, api.Frame{Kind: api.FrameC, Data: []byte{}})
}

// few are frames that may be, one of a sort.
func few() []api.Frame {
	c := states[1]
	return []api.Frame{
		{Kind: api.FrameN, Cstate: c},
		{Kind: api.FrameN, Cstate: c, Data: []byte("ab")},
		{Kind: api.FrameN, Cstate: c, Data: data(api.MaxData)},
		{Kind: api.FrameI, Cstate: c},
		{Kind: api.FrameX, Cstate: c},
		{Kind: api.FrameX, Cstate: c, Data: []byte("ab")},
		{Kind: api.FrameX, Cstate: c, Data: data(api.MaxData)},
		cold(0), cold(5), cold(15),
	}
}

func cold(slot int) api.Frame {
	return api.Frame{Kind: api.FrameC, Cstate: api.Cstate{Slot: slot}}
}

// unbound is a frame as its bytes alone say it.
func unbound(f api.Frame) api.Frame {
	if f.Kind == api.FrameN {
		f.Cstate = api.Cstate{}
	}
	return f
}

// random is some frame that may be.
func random(r *rand.Rand) api.Frame {
	f := api.Frame{Kind: kinds[r.Intn(len(kinds))], Cstate: randomState(r)}
	switch f.Kind {
	case api.FrameC:
		f = cold(f.Cstate.Slot)
	case api.FrameN, api.FrameX:
		f.Data = make([]byte, r.Intn(api.MaxData+1)>>r.Intn(11))
		r.Read(f.Data)
	}
	return f
}

func randomState(r *rand.Rand) api.Cstate {
	return api.Cstate{Round: r.Intn(api.MaxRound+1) >> r.Intn(32), Slot: r.Intn(16), Mode: r.Intn(8), Vector: api.Group(r.Intn(1 << 16))}
}

// sumOf is CRC-24 as a long division of the bits, in three bytes.
func sumOf(b []byte) []byte {
	sum := uint32(0xB704CE)
	for _, x := range b {
		sum ^= uint32(x) << 16
		for range 8 {
			sum <<= 1
			if sum&(1<<24) != 0 {
				sum ^= 0x1864CFB
			}
		}
	}
	return []byte{byte(sum >> 16), byte(sum >> 8), byte(sum)}
}

// stateBytes are the chapter 4's bytes of a C-state.
func stateBytes(c api.Cstate) []byte {
	b := binary.BigEndian.AppendUint32(nil, uint32(c.Round))
	b = append(b, byte(c.Slot), byte(c.Mode))
	return binary.BigEndian.AppendUint16(b, uint16(c.Vector))
}

// summed is bytes with the sum over them behind them.
func summed(ahead ...byte) []byte { return append(bytes.Clone(ahead), sumOf(ahead)...) }

// bytesOf are a frame's bytes by the chapter's table, row by row; whether it
// may be does not matter.
func bytesOf(f api.Frame) []byte {
	counted := append([]byte{byte(len(f.Data) >> 8), byte(len(f.Data))}, f.Data...)
	switch f.Kind {
	case api.FrameN:
		ahead := append([]byte{1}, counted...)
		return append(ahead, sumOf(slices.Concat(ahead, stateBytes(f.Cstate)))...)
	case api.FrameI:
		return summed(append([]byte{2}, stateBytes(f.Cstate)...)...)
	case api.FrameX:
		return summed(slices.Concat([]byte{3}, stateBytes(f.Cstate), counted)...)
	}
	return summed(4, byte(f.Cstate.Slot))
}

func sameFrame(a, b api.Frame) bool {
	return a.Kind == b.Kind && a.Cstate == b.Cstate && string(a.Data) == string(b.Data)
}

func encoded(t *testing.T, f api.Frame) []byte {
	t.Helper()
	b, err := frame.Encode(f)
	if err != api.OK {
		t.Fatalf("%v: error %d", f, err)
	}
	return b
}

func wantBytes(t *testing.T, f api.Frame, want []byte) {
	t.Helper()
	if err := frame.Check(f); err != api.OK {
		t.Errorf("%v: checked, error %d", f, err)
	}
	if b, err := frame.Encode(f); err != api.OK || !bytes.Equal(b, want) {
		t.Errorf("%v: bytes % x, error %d; want % x", f, b, err, want)
	}
}

func wantNoFrame(t *testing.T, f api.Frame) {
	t.Helper()
	if err := frame.Check(f); err != api.ErrFrame {
		t.Errorf("%v: checked, error %d; want ErrFrame", f, err)
	}
	if b, err := frame.Encode(f); err != api.ErrFrame || len(b) != 0 {
		t.Errorf("%v: bytes % x, error %d; want ErrFrame", f, b, err)
	}
}

func wantDecoded(t *testing.T, b []byte, want api.Frame) {
	t.Helper()
	if f, err := frame.Decode(b); err != api.OK || !sameFrame(f, want) {
		t.Errorf("% x: read %v, error %d; want %v", b, f, err, want)
	}
}

// wantNoForm wants bytes to be no frame's, and to fit nothing.
func wantNoForm(t *testing.T, b []byte) {
	t.Helper()
	if f, err := frame.Decode(b); err != api.ErrFrame || !sameFrame(f, api.Frame{}) {
		t.Errorf("% x: read %v, error %d; want ErrFrame", b, f, err)
	}
	for _, c := range states {
		wantFits(t, b, c, false)
	}
}

func wantFits(t *testing.T, b []byte, c api.Cstate, want bool) {
	t.Helper()
	if got := frame.Fits(b, c); got != want {
		t.Errorf("% x against %v: fits %v, want %v", b, c, got, want)
	}
}

func wantCut(t *testing.T, b, want []byte) {
	t.Helper()
	if got := frame.Cut(b); !bytes.Equal(got, want) {
		t.Errorf("% x cut: % x, want % x", b, got, want)
	}
}

func wantSame(t *testing.T, a, b api.Frame, want bool) {
	t.Helper()
	if got := frame.Same(a, b); got != want {
		t.Errorf("%v and %v: same %v, want %v", a, b, got, want)
	}
	if got := frame.Same(b, a); got != want {
		t.Errorf("%v and %v: same %v, want %v", b, a, got, want)
	}
}

// The chapter's examples, and those of the whole.

func TestExamples(t *testing.T) {
	b := encoded(t, cold(5))
	if len(b) != 5 || !bytes.Equal(b[:2], []byte{4, 5}) {
		t.Errorf("a cold start of slot 5: % x", b)
	}
	ab := []byte("ab")
	for _, c := range states {
		n := encoded(t, api.Frame{Kind: api.FrameN, Cstate: c, Data: ab})
		if len(n) != 8 || !bytes.Equal(n[:5], []byte{1, 0, 2, 0x61, 0x62}) {
			t.Errorf("FrameN of ab: % x", n)
		}
		i := encoded(t, api.Frame{Kind: api.FrameI, Cstate: c})
		x := encoded(t, api.Frame{Kind: api.FrameX, Cstate: c, Data: ab})
		if len(i) != 12 || len(x) != 16 {
			t.Errorf("FrameI has %d bytes, FrameX %d", len(i), len(x))
		}
		for _, whole := range [][]byte{b, n, i, x} {
			wantNoForm(t, frame.Cut(whole))
		}
	}
	wantNoForm(t, nil)
	wantNoForm(t, []byte{})
}

// P5.1

func TestBytesOfEachKind(t *testing.T) {
	c := api.Cstate{Round: 258, Slot: 3, Mode: 1, Vector: 0x0101}
	state := []byte{0, 0, 1, 2, 3, 1, 1, 1}
	n := append([]byte{1, 0, 1, 9}, sumOf(append([]byte{1, 0, 1, 9}, state...))...)
	wantBytes(t, api.Frame{Kind: api.FrameN, Cstate: c, Data: []byte{9}}, n)
	wantBytes(t, api.Frame{Kind: api.FrameI, Cstate: c}, summed(2, 0, 0, 1, 2, 3, 1, 1, 1))
	wantBytes(t, api.Frame{Kind: api.FrameX, Cstate: c, Data: []byte{9}}, summed(3, 0, 0, 1, 2, 3, 1, 1, 1, 0, 1, 9))
	wantBytes(t, cold(3), summed(4, 3))
}

func TestEncodeWhatMayBe(t *testing.T) {
	for _, f := range some() {
		wantBytes(t, f, bytesOf(f))
	}
}

func TestSumOfFrameNIsOverItsState(t *testing.T) {
	for _, c := range states {
		b := encoded(t, api.Frame{Kind: api.FrameN, Cstate: c})
		if want := append([]byte{1, 0, 0}, sumOf(append([]byte{1, 0, 0}, stateBytes(c)...))...); !bytes.Equal(b, want) {
			t.Errorf("bound to %v: % x, want % x", c, b, want)
		}
	}
}

func TestKindsThatAreNone(t *testing.T) {
	for _, k := range noKinds {
		for _, c := range states {
			wantNoFrame(t, api.Frame{Kind: k, Cstate: c})
			wantNoFrame(t, api.Frame{Kind: k, Cstate: c, Data: []byte("ab")})
		}
	}
}

func TestStatesThatMayNotBe(t *testing.T) {
	for _, c := range noStates {
		for _, k := range append(slices.Clone(kinds), noKinds...) {
			wantNoFrame(t, api.Frame{Kind: k, Cstate: c})
			wantNoFrame(t, api.Frame{Kind: k, Cstate: c, Data: []byte("ab")})
		}
	}
}

func TestMostDataAndOneMore(t *testing.T) {
	for _, k := range kinds {
		for _, n := range []int{api.MaxData - 1, api.MaxData, api.MaxData + 1, 2 * api.MaxData, 1<<16 - 1, 1 << 16, 1<<16 + 1, 1<<16 + 2} {
			f := api.Frame{Kind: k, Cstate: api.Cstate{Slot: 3}, Data: data(n)}
			if (k == api.FrameN || k == api.FrameX) && n <= api.MaxData {
				wantBytes(t, f, bytesOf(f))
			} else {
				wantNoFrame(t, f)
			}
		}
	}
}

func TestDataInKindsThatHaveNone(t *testing.T) {
	for _, k := range []int{api.FrameI, api.FrameC} {
		for _, n := range lengths {
			f := api.Frame{Kind: k, Cstate: api.Cstate{Slot: 3}, Data: data(n)}
			if n == 0 {
				wantBytes(t, f, bytesOf(f))
			} else {
				wantNoFrame(t, f)
			}
		}
	}
}

func TestColdStartWithMoreThanASlot(t *testing.T) {
	for slot := range api.MaxNodes {
		wantBytes(t, cold(slot), summed(4, byte(slot)))
		for _, c := range []api.Cstate{{Round: 1}, {Round: api.MaxRound}, {Mode: 1}, {Mode: 7}, {Vector: 1}, {Vector: 0x8000}, {Vector: 0xFFFF}, {Round: 1, Mode: 1, Vector: 1}} {
			c.Slot = slot
			wantNoFrame(t, api.Frame{Kind: api.FrameC, Cstate: c})
		}
	}
}

func TestDecodeWhatMayBe(t *testing.T) {
	for _, f := range some() {
		wantDecoded(t, bytesOf(f), unbound(f))
	}
}

func TestDecodeFrameNOfAnySum(t *testing.T) {
	for _, sum := range [][]byte{{0, 0, 0}, {255, 255, 255}, {1, 2, 3}, sumOf([]byte{1, 0, 1, 7})} {
		wantDecoded(t, append([]byte{1, 0, 1, 7}, sum...), api.Frame{Kind: api.FrameN, Data: []byte{7}})
		wantDecoded(t, append([]byte{1, 0, 0}, sum...), api.Frame{Kind: api.FrameN})
	}
}

func TestDecodeTooFewOrTooMany(t *testing.T) {
	for _, f := range few() {
		b := bytesOf(f)
		for n := range len(b) {
			wantNoForm(t, b[:n])
		}
		for _, more := range []int{1, 2, 3, 8, 1 << 16} {
			wantNoForm(t, append(bytes.Clone(b), make([]byte, more)...))
		}
		if f.Kind != api.FrameN {
			wantNoForm(t, summed(b...))
			wantNoForm(t, summed(b[:len(b)-4]...))
		}
	}
	for n := range 3 {
		wantNoForm(t, make([]byte, n))
	}
	wantNoForm(t, summed())
	for k := range 256 {
		wantNoForm(t, summed(byte(k)))
	}
	wantNoForm(t, make([]byte, 1<<20))
}

func TestDecodeCountsThatSayOtherwise(t *testing.T) {
	for _, k := range []int{api.FrameN, api.FrameX} {
		for _, n := range []int{0, 1, 2, 255, 256, 257, api.MaxData - 1, api.MaxData} {
			for _, says := range []int{0, 1, 2, n - 1, n + 1, n + 3, n ^ 1, n << 8, n + 256, api.MaxData, api.MaxData + 1, 1<<16 - 1} {
				if says < 0 || says >= 1<<16 || says == n {
					continue
				}
				wantNoForm(t, withCount(k, n, says))
			}
		}
	}
}

// withCount has n bytes of data, says that it has others, and has the right
// sum for that.
func withCount(k, n, says int) []byte {
	ahead := []byte{byte(k)}
	if k == api.FrameX {
		ahead = append(ahead, stateBytes(api.Cstate{})...)
	}
	ahead = append(ahead, byte(says>>8), byte(says))
	ahead = append(ahead, data(n)...)
	if k == api.FrameN {
		return append(ahead, sumOf(append(bytes.Clone(ahead), make([]byte, 8)...))...)
	}
	return summed(ahead...)
}

func TestDecodeMoreDataThanMayBe(t *testing.T) {
	for _, k := range []int{api.FrameN, api.FrameX} {
		wantDecoded(t, withCount(k, api.MaxData, api.MaxData), api.Frame{Kind: k, Data: data(api.MaxData)})
		for _, n := range []int{api.MaxData + 1, api.MaxData + 2, 2 * api.MaxData, 1<<16 - 1} {
			wantNoForm(t, withCount(k, n, n))
		}
	}
}

func TestDecodeKindsThatAreNone(t *testing.T) {
	for _, f := range few() {
		ahead := bytesOf(f)
		ahead = ahead[:len(ahead)-3]
		for k := range 256 {
			if k >= 1 && k <= 4 {
				continue
			}
			wantNoForm(t, summed(append([]byte{byte(k)}, ahead[1:]...)...))
		}
	}
}

func TestDecodeAKindWithAnothersLength(t *testing.T) {
	c := states[1]
	i, x, n := bytesOf(api.Frame{Kind: api.FrameI, Cstate: c}), bytesOf(api.Frame{Kind: api.FrameX, Cstate: c}), bytesOf(api.Frame{Kind: api.FrameN, Cstate: c})
	for _, one := range [][]byte{i, x, n, bytesOf(cold(3)), bytesOf(api.Frame{Kind: api.FrameX, Cstate: c, Data: data(5)})} {
		for k := 1; k <= 4; k++ {
			if int(one[0]) == k {
				continue
			}
			b := bytes.Clone(one[:len(one)-3])
			b[0] = byte(k)
			wantNoForm(t, summed(b...))
		}
	}
}

func TestDecodeStatesThatMayNotBe(t *testing.T) {
	for _, state := range [][]byte{
		{0x80, 0, 0, 0, 0, 0, 0, 0}, {0xFF, 0xFF, 0xFF, 0xFF, 3, 1, 1, 1}, {0, 0, 1, 2, 16, 1, 1, 1},
		{0, 0, 1, 2, 255, 1, 1, 1}, {0, 0, 1, 2, 3, 8, 1, 1}, {0, 0, 1, 2, 3, 255, 1, 1},
	} {
		wantNoForm(t, summed(append([]byte{2}, state...)...))
		wantNoForm(t, summed(slices.Concat([]byte{3}, state, []byte{0, 0})...))
		wantNoForm(t, summed(slices.Concat([]byte{3}, state, []byte{0, 2, 97, 98})...))
	}
	for slot := range 256 {
		if slot < 16 {
			wantDecoded(t, summed(4, byte(slot)), cold(slot))
		} else {
			wantNoForm(t, summed(4, byte(slot)))
		}
	}
}

func TestDecodeWrongSums(t *testing.T) {
	for _, f := range few() {
		b := bytesOf(f)
		for at := len(b) - 3; at < len(b); at++ {
			for bits := 1; bits < 256; bits++ {
				turned := bytes.Clone(b)
				turned[at] ^= byte(bits)
				if f.Kind == api.FrameN {
					wantDecoded(t, turned, unbound(f))
					wantFits(t, turned, f.Cstate, false)
				} else {
					wantNoForm(t, turned)
				}
			}
		}
	}
}

func TestDecodeTurnedBits(t *testing.T) {
	for _, f := range few() {
		b := bytesOf(f)
		for at := range len(b) * 8 {
			turned := bytes.Clone(b)
			turned[at/8] ^= 1 << (at % 8)
			wantFits(t, turned, f.Cstate, false)
			if f.Kind != api.FrameN {
				if _, err := frame.Decode(turned); err != api.ErrFrame {
					t.Errorf("%v with bit %d turned: error %d; want ErrFrame", f, at, err)
				}
			}
		}
	}
}

func TestDecodeAnyBytes(t *testing.T) {
	r := rand.New(rand.NewSource(51))
	for range 20000 {
		b := make([]byte, r.Intn(24))
		r.Read(b)
		if len(b) > 0 {
			b[0] %= 6
		}
		if len(b) > 3 && r.Intn(2) == 0 {
			b[1], b[2] = 0, byte(len(b)-6)
		}
		if len(b) > 3 && r.Intn(2) == 0 {
			b = summed(b[:len(b)-3]...)
		}
		f, err := frame.Decode(b)
		if err != api.OK {
			wantNoForm(t, b)
			continue
		}
		again := bytesOf(f)
		if f.Kind == api.FrameN {
			again = append(again[:len(again)-3], b[len(b)-3:]...)
		}
		if !bytes.Equal(again, b) || frame.Check(f) != api.OK {
			t.Errorf("% x is read as %v", b, f)
		}
	}
}

// P5.2

func TestFitsItsOwnState(t *testing.T) {
	for _, f := range some() {
		wantFits(t, bytesOf(f), f.Cstate, f.Kind != api.FrameC)
	}
}

func TestFitsNoOther(t *testing.T) {
	for _, f := range few() {
		b := bytesOf(f)
		for _, c := range states {
			if c != f.Cstate {
				wantFits(t, b, c, false)
			}
		}
		c := f.Cstate
		for _, other := range []api.Cstate{
			{Round: c.Round + 1, Slot: c.Slot, Mode: c.Mode, Vector: c.Vector},
			{Round: c.Round ^ 1<<30, Slot: c.Slot, Mode: c.Mode, Vector: c.Vector},
			{Round: c.Round, Slot: c.Slot ^ 1, Mode: c.Mode, Vector: c.Vector},
			{Round: c.Round, Slot: c.Slot ^ 8, Mode: c.Mode, Vector: c.Vector},
			{Round: c.Round, Slot: c.Slot, Mode: c.Mode ^ 1, Vector: c.Vector},
			{Round: c.Round, Slot: c.Slot, Mode: c.Mode ^ 4, Vector: c.Vector},
		} {
			wantFits(t, b, other, false)
		}
	}
}

func TestColdStartFitsNone(t *testing.T) {
	for slot := range api.MaxNodes {
		b := bytesOf(cold(slot))
		wantDecoded(t, b, cold(slot))
		wantFits(t, b, api.Cstate{Slot: slot}, false)
		wantFits(t, b, api.Cstate{}, false)
		wantFits(t, b, api.Cstate{Slot: slot, Vector: 1 << slot}, false)
	}
}

func TestFitsNoStateThatMayNotBe(t *testing.T) {
	for _, c := range noStates {
		for _, f := range few() {
			wantFits(t, bytesOf(f), c, false)
		}
		// The sum is right over what would be the bytes of such a C-state.
		for _, k := range kinds {
			wantFits(t, bytesOf(api.Frame{Kind: k, Cstate: c}), c, false)
			wantFits(t, bytesOf(api.Frame{Kind: k, Cstate: c, Data: []byte("ab")}), c, false)
		}
		ahead := []byte{1, 0, 0}
		wantFits(t, append(bytes.Clone(ahead), sumOf(ahead)...), c, false)
	}
}

func TestFrameNSummedWithoutItsState(t *testing.T) {
	for _, ahead := range [][]byte{{1, 0, 0}, {1, 0, 2, 97, 98}} {
		for _, c := range states {
			wantFits(t, append(bytes.Clone(ahead), sumOf(ahead)...), c, false)
			wantFits(t, append(bytes.Clone(ahead), sumOf(append(stateBytes(c), ahead...))...), c, false)
		}
	}
}

func TestCut(t *testing.T) {
	wantCut(t, nil, nil)
	wantCut(t, []byte{}, nil)
	wantCut(t, []byte{7}, nil)
	wantCut(t, []byte{7, 8}, []byte{7})
	for _, n := range lengths[1:] {
		wantCut(t, data(n), data(n - 1)[:n-1])
	}
	wantCut(t, make([]byte, 1<<20), make([]byte, 1<<20-1))
}

func TestSame(t *testing.T) {
	l := few()
	for i, a := range l {
		for j, b := range l {
			wantSame(t, a, b, i == j)
		}
	}
	for _, f := range some() {
		other := f
		other.Data = bytes.Clone(f.Data)
		wantSame(t, f, other, true)
		other.Data = append(bytes.Clone(f.Data), 0)
		wantSame(t, f, other, false)
		other = f
		other.Kind++
		wantSame(t, f, other, false)
		for _, c := range states {
			other := f
			other.Cstate = c
			wantSame(t, f, other, c == f.Cstate)
		}
	}
}

func TestSameOfNoDataAndNil(t *testing.T) {
	for _, k := range append(slices.Clone(kinds), noKinds...) {
		a, b := api.Frame{Kind: k}, api.Frame{Kind: k, Data: []byte{}}
		wantSame(t, a, b, true)
		wantSame(t, a, api.Frame{Kind: k, Data: []byte{0}}, false)
		wantSame(t, b, api.Frame{Kind: k, Data: []byte{0}}, false)
		wantSame(t, api.Frame{Kind: k, Data: []byte{1}}, api.Frame{Kind: k, Data: []byte{0}}, false)
	}
}

// Same asks for no frame that may be.
func TestSameOfWhatMayNotBe(t *testing.T) {
	for _, c := range noStates {
		a := api.Frame{Kind: 9, Cstate: c, Data: data(2000)}
		wantSame(t, a, a, true)
		wantSame(t, a, api.Frame{Kind: 9, Cstate: c, Data: data(1999)}, false)
		wantSame(t, a, api.Frame{Kind: 10, Cstate: c, Data: data(2000)}, false)
	}
}

// P5.3

// roomy is a copy of bytes that stands in more memory, with what may not be
// written on ahead of it and behind it.
func roomy(b []byte) (all, piece []byte) {
	all = slices.Concat(bytes.Repeat([]byte{0xEE}, 16), b, bytes.Repeat([]byte{0xEE}, 64))
	return all, all[16 : 16+len(b)]
}

func TestWhatIsHandedInIsOnlyRead(t *testing.T) {
	for _, f := range few() {
		all, given := roomy(bytesOf(f))
		before := bytes.Clone(all)
		frame.Decode(given)
		frame.Fits(given, f.Cstate)
		frame.Fits(given, api.Cstate{Vector: 1})
		frame.Cut(given)
		if !bytes.Equal(all, before) {
			t.Errorf("the bytes of %v were written on", f)
		}
		all, given = roomy(f.Data)
		before = bytes.Clone(all)
		f.Data = given
		frame.Check(f)
		frame.Encode(f)
		frame.Same(f, f)
		if !bytes.Equal(all, before) {
			t.Errorf("the data of %v was written on", f)
		}
	}
}

// scribble writes all over the memory behind a slice.
func scribble(b []byte) {
	b = b[:cap(b)]
	for i := range b {
		b[i] ^= 0xFF
	}
}

func TestWhatIsAnsweredIsNewMemory(t *testing.T) {
	for _, f := range few() {
		want := bytesOf(f)
		b := bytes.Clone(want)
		for range 2 {
			out := encoded(t, f)
			if !bytes.Equal(out, want) {
				t.Fatalf("%v: % x, want % x", f, out, want)
			}
			scribble(out)
			read, _ := frame.Decode(b)
			wantSame(t, read, unbound(f), true)
			scribble(read.Data)
			cut := frame.Cut(b)
			scribble(cut)
			if !bytes.Equal(b, want) {
				t.Fatalf("%v: what was handed in was written on", f)
			}
		}
		wantBytes(t, f, want)
	}
}

func TestNothingIsKept(t *testing.T) {
	given := bytesOf(api.Frame{Kind: api.FrameX, Cstate: states[1], Data: []byte("abc")})
	read, _ := frame.Decode(given)
	cut := frame.Cut(given)
	want := bytes.Clone(cut)
	f := api.Frame{Kind: api.FrameX, Cstate: states[1], Data: []byte("abc")}
	out := encoded(t, f)
	scribble(given)
	scribble(f.Data)
	if string(read.Data) != "abc" || !bytes.Equal(cut, want) || !bytes.Equal(out[:len(out)-1], want) {
		t.Errorf("an answer went with what was handed in: %v, % x, % x", read, cut, out)
	}
}

// P5.4

func wantAllThatFollows(t *testing.T, f api.Frame) {
	t.Helper()
	b := encoded(t, f)
	wantDecoded(t, b, unbound(f))
	wantFits(t, b, f.Cstate, f.Kind != api.FrameC)
	wantNoForm(t, frame.Cut(b))
	wantNoForm(t, append(bytes.Clone(b), 0))
	wantNoForm(t, append(bytes.Clone(b), b[len(b)-1]))
}

func TestWhatFollows(t *testing.T) {
	for _, f := range some() {
		wantAllThatFollows(t, f)
	}
	r := rand.New(rand.NewSource(54))
	for range 2000 {
		wantAllThatFollows(t, random(r))
	}
}

func TestNoByteMore(t *testing.T) {
	for _, f := range few() {
		b := encoded(t, f)
		for more := range 256 {
			if _, err := frame.Decode(append(bytes.Clone(b), byte(more))); err != api.ErrFrame {
				t.Errorf("%v with %d behind it: error %d; want ErrFrame", f, more, err)
			}
		}
	}
}

func TestFitsNoOtherVector(t *testing.T) {
	for _, f := range few() {
		b, c := encoded(t, f), f.Cstate
		for v := range 1 << 16 {
			c.Vector = api.Group(v)
			wantFits(t, b, c, c == f.Cstate && f.Kind != api.FrameC)
		}
	}
}

func TestFitsNoTurnedVectorBit(t *testing.T) {
	r := rand.New(rand.NewSource(55))
	for range 2000 {
		f := random(r)
		b, c := encoded(t, f), f.Cstate
		for bit := range 16 {
			c.Vector = f.Cstate.Vector ^ 1<<bit
			wantFits(t, b, c, false)
		}
		wantFits(t, b, randomState(r), false)
	}
}
