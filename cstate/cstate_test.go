package cstate_test

import (
	"bytes"
	"encoding/binary"
	"math"
	"math/big"
	"math/rand"
	"slices"
	"testing"

	"vespers/api"
	"vespers/cstate"
)

// Numbers that may be, their edges among them.
var (
	rounds  = []int{0, 1, 2, 127, 128, 255, 256, 257, 258, 65535, 65536, 1<<24 - 1, 1 << 24, 0x01020304, 1 << 30, api.MaxRound - 1, api.MaxRound}
	slots   = []int{0, 1, 2, 3, 4, 5, 6, 7, 8, 9, 10, 11, 12, 13, 14, 15}
	modes   = []int{0, 1, 2, 3, 4, 5, 6, 7}
	vectors = []api.Group{0, 1, 0x0101, 0x00FF, 0xFF00, 0x1234, 0x7FFF, 0x8000, 0x8001, 0xFFFF}
)

// Numbers that may not be.
var (
	noRounds  = []int{math.MinInt, math.MinInt + 1, -1 << 33, -1 << 32, -1 << 31, -256, -1, api.MaxRound + 1, 1<<32 - 1, 1 << 32, 1<<32 + 5, 1 << 40, math.MaxInt - 1, math.MaxInt}
	noSlots   = []int{math.MinInt, -1 << 32, -257, -256, -16, -2, -1, 16, 17, 31, 32, 255, 256, 257, 1 << 31, 1 << 32, math.MaxInt}
	noModes   = []int{math.MinInt, -1 << 32, -256, -8, -2, -1, 8, 9, 15, 16, 255, 256, 257, 1 << 31, 1 << 32, math.MaxInt}
	noCounts  = []int{math.MinInt, -1 << 32, -65536, -17, -16, -4, -2, -1, 0, 17, 18, 31, 32, 256, 257, 1 << 31, 1 << 32, 1<<32 + 4, math.MaxInt}
	noMembers = []int{math.MinInt, -1 << 32, -65536, -257, -256, -64, -17, -16, -2, -1, 16, 17, 31, 32, 63, 64, 65, 256, 257, 1 << 31, 1 << 32, math.MaxInt}
)

func made(round, slot, mode int, vector api.Group) api.Cstate {
	return api.Cstate{Round: round, Slot: slot, Mode: mode, Vector: vector}
}

// some are C-states that may be: the edges of each number with the edges of
// each other one.
func some() []api.Cstate {
	var l []api.Cstate
	for _, r := range rounds {
		for _, s := range slots {
			for _, m := range []int{0, 1, 7} {
				for _, v := range vectors {
					l = append(l, made(r, s, m, v))
				}
			}
		}
	}
	return l
}

// wrong are C-states that may not be: for one of their numbers, or for more.
func wrong() []api.Cstate {
	var l []api.Cstate
	for _, v := range vectors {
		for _, r := range noRounds {
			l = append(l, made(r, 0, 0, v), made(r, 15, 7, v))
		}
		for _, s := range noSlots {
			l = append(l, made(0, s, 0, v), made(api.MaxRound, s, 7, v))
		}
		for _, m := range noModes {
			l = append(l, made(0, 0, m, v), made(api.MaxRound, 15, m, v))
		}
		l = append(l, made(-1, -1, 0, v), made(-1, 3, -1, v), made(5, 16, 8, v), made(api.MaxRound+1, 16, 8, v))
	}
	return l
}

// random is some C-state of n nodes that may be.
func random(r *rand.Rand, n int) api.Cstate {
	return made(r.Intn(api.MaxRound+1)>>r.Intn(32), r.Intn(n), r.Intn(8), api.Group(r.Intn(1<<16)))
}

// written are the chapter's bytes: each number's, the highest first.
func written(c api.Cstate) []byte {
	b := binary.BigEndian.AppendUint32(nil, uint32(c.Round))
	b = append(b, byte(c.Slot), byte(c.Mode))
	return binary.BigEndian.AppendUint16(b, uint16(c.Vector))
}

func wantBytes(t *testing.T, c api.Cstate, want []byte) {
	t.Helper()
	if b, err := cstate.Encode(c); err != api.OK || !bytes.Equal(b, want) {
		t.Errorf("%v: bytes % x, error %d; want % x", c, b, err, want)
	}
	if err := cstate.Check(c); err != api.OK {
		t.Errorf("%v: checked, error %d", c, err)
	}
}

func wantNoCstate(t *testing.T, c api.Cstate) {
	t.Helper()
	if err := cstate.Check(c); err != api.ErrCstate {
		t.Errorf("%v: checked, error %d; want ErrCstate", c, err)
	}
	if b, err := cstate.Encode(c); err != api.ErrCstate || len(b) != 0 {
		t.Errorf("%v: bytes % x, error %d; want ErrCstate", c, b, err)
	}
}

func wantDecoded(t *testing.T, b []byte, want api.Cstate) {
	t.Helper()
	if c, err := cstate.Decode(b); err != api.OK || c != want {
		t.Errorf("% x: read %v, error %d; want %v", b, c, err, want)
	}
}

func wantNoBytes(t *testing.T, b []byte) {
	t.Helper()
	if c, err := cstate.Decode(b); err != api.ErrCstate || c != (api.Cstate{}) {
		t.Errorf("% x: read %v, error %d; want ErrCstate", b, c, err)
	}
}

func wantSuccessor(t *testing.T, c api.Cstate, n int, want api.Cstate) {
	t.Helper()
	if s, err := cstate.Successor(c, n); err != api.OK || s != want {
		t.Errorf("%v with %d nodes: successor %v, error %d; want %v", c, n, s, err, want)
	}
}

func wantNoSuccessor(t *testing.T, c api.Cstate, n int) {
	t.Helper()
	if s, err := cstate.Successor(c, n); err != api.ErrCstate || s != (api.Cstate{}) {
		t.Errorf("%v with %d nodes: successor %v, error %d; want ErrCstate", c, n, s, err)
	}
}

func wantAgo(t *testing.T, c api.Cstate, n, slots, round, slot int) {
	t.Helper()
	if r, s, err := cstate.Ago(c, n, slots); err != api.OK || r != round || s != slot {
		t.Errorf("%v with %d nodes, %d slots ago: %d, %d, error %d; want %d, %d", c, n, slots, r, s, err, round, slot)
	}
}

func wantNotAgo(t *testing.T, c api.Cstate, n, slots int) {
	t.Helper()
	if r, s, err := cstate.Ago(c, n, slots); err != api.ErrCstate || r != 0 || s != 0 {
		t.Errorf("%v with %d nodes, %d slots ago: %d, %d, error %d; want ErrCstate", c, n, slots, r, s, err)
	}
}

func wantCompare(t *testing.T, a, b api.Cstate, want int) {
	t.Helper()
	if got := cstate.Compare(a, b); got != want {
		t.Errorf("%v against %v: %d, want %d", a, b, got, want)
	}
}

func wantApart(t *testing.T, a, b api.Cstate, want api.Group, same bool) {
	t.Helper()
	if g, is := cstate.Apart(a, b); g != want || is != same {
		t.Errorf("%v and %v: apart %016b, same %v; want %016b, %v", a, b, g, is, want, same)
	}
}

func wantSeen(t *testing.T, c api.Cstate, node int, is bool, want api.Cstate) {
	t.Helper()
	if got := cstate.Seen(c, node, is); got != want {
		t.Errorf("%v, node %d seen %v: %v, want %v", c, node, is, got, want)
	}
}

// The chapter's examples.

func TestExamples(t *testing.T) {
	wantBytes(t, made(258, 3, 1, 1<<0|1<<8), []byte{0, 0, 1, 2, 3, 1, 1, 1})
	c := made(5, 3, 2, 0x000B)
	wantSuccessor(t, c, 4, made(6, 0, 2, 0x000B))
	wantSuccessor(t, c, 5, made(5, 4, 2, 0x000B))
	c.Slot = 1
	wantAgo(t, c, 4, 6, 3, 3)
	wantNotAgo(t, c, 4, 22)
}

// P4.1

func TestEncodeWhatMayBe(t *testing.T) {
	for _, c := range some() {
		wantBytes(t, c, written(c))
	}
	for _, m := range modes {
		wantBytes(t, made(1, 2, m, 3), []byte{0, 0, 0, 1, 2, byte(m), 0, 3})
	}
	for v := range 1 << 16 {
		wantBytes(t, made(0, 0, 0, api.Group(v)), []byte{0, 0, 0, 0, 0, 0, byte(v >> 8), byte(v)})
	}
}

func TestEncodeEdges(t *testing.T) {
	wantBytes(t, api.Cstate{}, make([]byte, 8))
	wantBytes(t, made(api.MaxRound, 15, api.MaxMode, 0xFFFF), []byte{0x7F, 0xFF, 0xFF, 0xFF, 15, 7, 0xFF, 0xFF})
	wantBytes(t, made(0x01020304, 5, 6, 0x0708), []byte{1, 2, 3, 4, 5, 6, 7, 8})
	wantBytes(t, made(1<<30, 0, 0, 1<<15), []byte{0x40, 0, 0, 0, 0, 0, 0x80, 0})
}

func TestEncodeWhatMayNotBe(t *testing.T) {
	for _, c := range wrong() {
		wantNoCstate(t, c)
	}
}

func TestDecodeWhatMayBe(t *testing.T) {
	for _, c := range some() {
		wantDecoded(t, written(c), c)
	}
	for v := range 1 << 16 {
		wantDecoded(t, []byte{0, 0, 0, 9, 8, 7, byte(v >> 8), byte(v)}, made(9, 8, 7, api.Group(v)))
	}
}

func TestDecodeTooFewOrTooMany(t *testing.T) {
	wantNoBytes(t, nil)
	wantNoBytes(t, []byte{})
	for _, c := range []api.Cstate{{}, made(258, 3, 1, 0x0101), made(api.MaxRound, 15, 7, 0xFFFF)} {
		b := written(c)
		for n := range len(b) {
			wantNoBytes(t, b[:n])
			wantNoBytes(t, b[len(b)-n:])
		}
		for more := 1; more <= 9; more++ {
			wantNoBytes(t, append(bytes.Clone(b), make([]byte, more)...))
			wantNoBytes(t, append(make([]byte, more), b...))
		}
		wantNoBytes(t, append(bytes.Clone(b), b...))
		wantNoBytes(t, append(bytes.Clone(b), make([]byte, 1<<20)...))
	}
}

func TestDecodeNumbersThatMayNotBe(t *testing.T) {
	wantNoBytes(t, []byte{0x80, 0, 0, 0, 0, 0, 0, 0})
	wantNoBytes(t, bytes.Repeat([]byte{0xFF}, 8))
	for first := range 256 {
		b := []byte{byte(first), 0xFF, 0xFE, 0xFD, 3, 1, 1, 1}
		if first < 128 {
			wantDecoded(t, b, made(first<<24|0xFFFEFD, 3, 1, 0x0101))
		} else {
			wantNoBytes(t, b)
		}
	}
	for x := range 256 {
		slot, mode := []byte{0, 0, 1, 2, byte(x), 1, 1, 1}, []byte{0, 0, 1, 2, 3, byte(x), 1, 1}
		if x < 16 {
			wantDecoded(t, slot, made(258, x, 1, 0x0101))
		} else {
			wantNoBytes(t, slot)
		}
		if x < 8 {
			wantDecoded(t, mode, made(258, 3, x, 0x0101))
		} else {
			wantNoBytes(t, mode)
		}
	}
}

// P4.2

func TestSuccessor(t *testing.T) {
	for n := 1; n <= api.MaxNodes; n++ {
		for _, c := range some() {
			switch {
			case c.Slot >= n, c.Slot == n-1 && c.Round == api.MaxRound:
				wantNoSuccessor(t, c, n)
			case c.Slot == n-1:
				wantSuccessor(t, c, n, made(c.Round+1, 0, c.Mode, c.Vector))
			default:
				wantSuccessor(t, c, n, made(c.Round, c.Slot+1, c.Mode, c.Vector))
			}
		}
	}
}

func TestSuccessorEdges(t *testing.T) {
	wantSuccessor(t, made(0, 0, 7, 0xFFFF), 1, made(1, 0, 7, 0xFFFF))
	wantSuccessor(t, made(0, 15, 0, 0), 16, made(1, 0, 0, 0))
	wantSuccessor(t, made(0, 14, 0, 0), 16, made(0, 15, 0, 0))
	wantSuccessor(t, made(api.MaxRound-1, 0, 3, 0x8001), 1, made(api.MaxRound, 0, 3, 0x8001))
	wantSuccessor(t, made(api.MaxRound-1, 15, 3, 0x8001), 16, made(api.MaxRound, 0, 3, 0x8001))
	wantSuccessor(t, made(api.MaxRound, 14, 3, 0x8001), 16, made(api.MaxRound, 15, 3, 0x8001))
	wantNoSuccessor(t, made(api.MaxRound, 15, 3, 0x8001), 16)
	wantNoSuccessor(t, made(api.MaxRound, 0, 0, 0), 1)
	wantSuccessor(t, made(api.MaxRound, 0, 0, 0), 2, made(api.MaxRound, 1, 0, 0))
}

func TestNoNodesOrTooMany(t *testing.T) {
	for _, n := range noCounts {
		for _, c := range []api.Cstate{{}, made(5, 3, 1, 7), made(5, 15, 1, 7), made(api.MaxRound-1, 0, 7, 0xFFFF)} {
			wantNoSuccessor(t, c, n)
			wantNotAgo(t, c, n, 0)
			wantNotAgo(t, c, n, 1)
		}
	}
}

func TestSlotOfNoNode(t *testing.T) {
	for n := 1; n <= api.MaxNodes; n++ {
		for slot := n; slot <= 17; slot++ {
			wantNoSuccessor(t, made(5, slot, 1, 0xFFFF), n)
			wantNotAgo(t, made(5, slot, 1, 0xFFFF), n, 0)
			wantNotAgo(t, made(5, slot, 1, 0xFFFF), n, 1)
		}
	}
}

func TestNextToWhatMayNotBe(t *testing.T) {
	for _, c := range wrong() {
		for _, n := range []int{1, 2, 4, 15, 16} {
			wantNoSuccessor(t, c, n)
			wantNotAgo(t, c, n, 0)
			wantNotAgo(t, c, n, 1)
		}
	}
}

// stepBack is the slot just ahead, by the chapter's words on successors.
func stepBack(round, slot, n int) (int, int) {
	if slot > 0 {
		return round, slot - 1
	}
	return round - 1, n - 1
}

func TestAgoSlotBySlot(t *testing.T) {
	for n := 1; n <= api.MaxNodes; n++ {
		for from := range n {
			c := made(7, from, 2, 0x1234)
			round, slot := c.Round, c.Slot
			for back := range 7*n + from + 1 {
				wantAgo(t, c, n, back, round, slot)
				round, slot = stepBack(round, slot, n)
			}
			wantNotAgo(t, c, n, 7*n+from+1)
		}
	}
}

func TestAgoOfNoSlots(t *testing.T) {
	for _, c := range some() {
		wantAgo(t, c, 16, 0, c.Round, c.Slot)
		wantAgo(t, c, c.Slot+1, 0, c.Round, c.Slot)
	}
}

// agoBy works Ago out in numbers that have no end.
func agoBy(c api.Cstate, n, slots int) (round, slot int, is bool) {
	many := big.NewInt(int64(n))
	left := new(big.Int).Mul(big.NewInt(int64(c.Round)), many)
	left.Add(left, big.NewInt(int64(c.Slot))).Sub(left, big.NewInt(int64(slots)))
	if left.Sign() < 0 {
		return 0, 0, false
	}
	r, s := new(big.Int).DivMod(left, many, new(big.Int))
	return int(r.Int64()), int(s.Int64()), true
}

func wantAgoBy(t *testing.T, c api.Cstate, n, slots int) {
	t.Helper()
	if round, slot, is := agoBy(c, n, slots); is {
		wantAgo(t, c, n, slots, round, slot)
	} else {
		wantNotAgo(t, c, n, slots)
	}
}

func TestAgoOfAllSlotsAndOfOneMore(t *testing.T) {
	for n := 1; n <= api.MaxNodes; n++ {
		for _, round := range rounds {
			for slot := range n {
				c := made(round, slot, 1, 3)
				ahead := round*n + slot
				wantAgo(t, c, n, ahead, 0, 0)
				wantNotAgo(t, c, n, ahead+1)
				if ahead > 0 {
					wantAgoBy(t, c, n, ahead-1)
				}
			}
		}
	}
}

func TestAgoOfGreatNumbers(t *testing.T) {
	great := []int{1<<31 - 1, 1 << 31, 1<<31 + 1, 1<<32 - 1, 1 << 32, 1<<32 + 1, 1<<35 - 17, 1<<35 - 16, 1<<35 - 1, 1 << 35, 1<<35 + 1, 1 << 59, 1 << 60, 1<<60 + 5, 1 << 62, math.MaxInt - 15, math.MaxInt - 1, math.MaxInt}
	for n := 1; n <= api.MaxNodes; n++ {
		for _, round := range rounds {
			for _, slots := range great {
				wantAgoBy(t, made(round, 0, 0, 0), n, slots)
				wantAgoBy(t, made(round, n-1, 7, 0xFFFF), n, slots)
			}
		}
	}
	last := made(api.MaxRound, 15, 0, 0)
	wantAgo(t, last, 16, 1<<35-1, 0, 0)
	wantNotAgo(t, last, 16, 1<<35)
	wantAgo(t, last, 16, 1<<32, api.MaxRound-1<<28, 15)
	wantNotAgo(t, last, 16, math.MaxInt)
}

func TestAgoOfSomeNumbers(t *testing.T) {
	r := rand.New(rand.NewSource(41))
	for range 20000 {
		n := 1 + r.Intn(api.MaxNodes)
		wantAgoBy(t, random(r, n), n, r.Intn(1<<36)>>r.Intn(36))
	}
}

func TestAgoOfLessThanNoSlots(t *testing.T) {
	for _, slots := range []int{-1, -2, -4, -16, -65536, -1 << 31, -1 << 32, -1 << 60, math.MinInt + 1, math.MinInt} {
		for n := 1; n <= api.MaxNodes; n++ {
			wantNotAgo(t, made(5, 0, 1, 7), n, slots)
			wantNotAgo(t, made(0, n-1, 1, 7), n, slots)
			wantNotAgo(t, made(api.MaxRound, n-1, 1, 7), n, slots)
		}
	}
}

// P4.3

func TestCompare(t *testing.T) {
	// One that stands behind another one in this list stands behind it in
	// time.
	var order []api.Cstate
	for _, r := range rounds {
		for _, s := range slots {
			order = append(order, made(r, s, 0, 0))
		}
	}
	for i, a := range order {
		for j, b := range order {
			want := 0
			if i < j {
				want = -1
			} else if i > j {
				want = 1
			}
			wantCompare(t, a, b, want)
		}
	}
}

func TestCompareRoundAheadOfSlot(t *testing.T) {
	wantCompare(t, made(5, 15, 0, 0), made(6, 0, 0, 0), -1)
	wantCompare(t, made(6, 0, 0, 0), made(5, 15, 0, 0), 1)
	wantCompare(t, made(0, 0, 0, 0), made(api.MaxRound, 0, 0, 0), -1)
	wantCompare(t, made(api.MaxRound, 15, 0, 0), made(0, 0, 0, 0), 1)
}

func TestCompareLooksAtRoundAndSlotAlone(t *testing.T) {
	for _, m := range modes {
		for _, v := range vectors {
			wantCompare(t, made(5, 3, m, v), made(5, 3, 7-m, ^v), 0)
			wantCompare(t, made(5, 3, m, v), made(5, 4, 7-m, ^v), -1)
			wantCompare(t, made(6, 3, m, v), made(5, 4, 7-m, ^v), 1)
		}
	}
}

func TestCompareWhatMayNotBe(t *testing.T) {
	// No error is named: the words hold for any two numbers.
	wantCompare(t, made(math.MinInt, 0, 0, 0), made(math.MaxInt, 0, 0, 0), -1)
	wantCompare(t, made(math.MaxInt, 0, 0, 0), made(math.MinInt, 0, 0, 0), 1)
	wantCompare(t, made(0, math.MinInt, 0, 0), made(0, math.MaxInt, 0, 0), -1)
	wantCompare(t, made(0, math.MaxInt, 0, 0), made(0, -1, 0, 0), 1)
	wantCompare(t, made(-1, 99, -1, 0), made(-1, 99, 8, 1), 0)
}

// alone are the nodes that one of both has.
func alone(a, b api.Group) (g api.Group) {
	for n, bit := 0, 1; n < 16; n, bit = n+1, bit*2 {
		if int(a)/bit%2 != int(b)/bit%2 {
			g += api.Group(bit)
		}
	}
	return g
}

func TestApartOfTheSameButForVectors(t *testing.T) {
	for _, c := range []api.Cstate{{}, made(258, 3, 1, 0), made(api.MaxRound, 15, 7, 0)} {
		for _, v := range vectors {
			for _, w := range vectors {
				a, b := c, c
				a.Vector, b.Vector = v, w
				wantApart(t, a, b, alone(v, w), true)
			}
		}
	}
}

func TestApartOfEachVector(t *testing.T) {
	a := made(5, 3, 1, 0x0F35)
	for v := range 1 << 16 {
		b := made(5, 3, 1, api.Group(v))
		wantApart(t, a, b, alone(a.Vector, b.Vector), true)
		wantApart(t, b, a, alone(a.Vector, b.Vector), true)
	}
	wantApart(t, a, a, 0, true)
	wantApart(t, made(5, 3, 1, 0x00FF), made(5, 3, 1, 0x0FF0), 0x0F0F, true)
}

func TestApartOfOthers(t *testing.T) {
	a := made(5, 3, 1, 0x00FF)
	for _, b := range []api.Cstate{made(6, 3, 1, 0), made(4, 3, 1, 0), made(5, 4, 1, 0), made(5, 2, 1, 0), made(5, 3, 2, 0), made(5, 3, 0, 0), made(3, 5, 1, 0), {}} {
		for _, v := range vectors {
			b.Vector = v
			wantApart(t, a, b, alone(a.Vector, v), false)
			wantApart(t, b, a, alone(a.Vector, v), false)
		}
	}
	// The numbers are held against each other whole.
	wantApart(t, a, made(5+1<<32, 3, 1, 0x00FF), 0, false)
	wantApart(t, a, made(5, 3+1<<8, 1, 0x00FF), 0, false)
	wantApart(t, a, made(5, 3, 1+1<<8, 0x00FF), 0, false)
}

func TestApartOfWhatMayNotBe(t *testing.T) {
	for _, c := range wrong() {
		b := c
		b.Vector ^= 0x8010
		wantApart(t, c, b, 0x8010, true)
		wantApart(t, c, c, 0, true)
		wantApart(t, c, made(5, 3, 1, c.Vector), 0, false)
	}
}

func TestSeen(t *testing.T) {
	for _, c := range some() {
		for node, bit := 0, 1; node < 16; node, bit = node+1, bit*2 {
			in, out := c, c
			if int(c.Vector)/bit%2 == 0 {
				in.Vector += api.Group(bit)
			} else {
				out.Vector -= api.Group(bit)
			}
			wantSeen(t, c, node, true, in)
			wantSeen(t, c, node, false, out)
		}
	}
}

func TestSeenThatIsSoAlready(t *testing.T) {
	c := made(5, 3, 1, 0x8011)
	for _, node := range []int{0, 4, 15} {
		wantSeen(t, c, node, true, c)
	}
	for _, node := range []int{1, 3, 5, 14} {
		wantSeen(t, c, node, false, c)
	}
	wantSeen(t, c, 4, false, made(5, 3, 1, 0x8001))
	wantSeen(t, c, 14, true, made(5, 3, 1, 0xC011))
	wantSeen(t, made(0, 0, 0, 0), 15, true, made(0, 0, 0, 0x8000))
	wantSeen(t, made(0, 0, 0, 1), 0, false, made(0, 0, 0, 0))
}

func TestSeenOfNoNode(t *testing.T) {
	for _, node := range noMembers {
		for _, v := range vectors {
			c := made(258, 3, 1, v)
			wantSeen(t, c, node, true, c)
			wantSeen(t, c, node, false, c)
		}
	}
}

func TestSeenOfWhatMayNotBe(t *testing.T) {
	for _, c := range wrong() {
		in, out := c, c
		in.Vector |= 1 << 6
		out.Vector &^= 1 << 6
		wantSeen(t, c, 6, true, in)
		wantSeen(t, c, 6, false, out)
		wantSeen(t, c, 16, true, c)
	}
}

// P4.4

func TestEncodeIsNewMemory(t *testing.T) {
	c := made(258, 3, 1, 0x0101)
	first, _ := cstate.Encode(c)
	second, _ := cstate.Encode(c)
	for room, at := first[:cap(first)], 0; at < len(room); at++ {
		room[at] = 0xEE
	}
	if !bytes.Equal(second, written(c)) {
		t.Errorf("answered, and changed: % x", second)
	}
	wantBytes(t, c, written(c))
}

func TestDecodeOnlyReads(t *testing.T) {
	c := made(258, 3, 1, 0x0101)
	room := append(written(c), 7, 7, 7, 7)
	for n := range len(room) + 1 {
		want := bytes.Clone(room)
		cstate.Decode(room[:n])
		if !bytes.Equal(room, want) {
			t.Errorf("%d bytes handed in, and written: % x", n, room)
		}
	}
	wantDecoded(t, room[:8], c)
}

// P4.5

func TestReadAsItWas(t *testing.T) {
	r := rand.New(rand.NewSource(42))
	l := some()
	for range 20000 {
		l = append(l, random(r, api.MaxNodes))
	}
	for _, c := range l {
		b, err := cstate.Encode(c)
		if err != api.OK || len(b) != api.CstateSize {
			t.Fatalf("%v: bytes % x, error %d", c, b, err)
		}
		wantDecoded(t, b, c)
	}
}

func TestWhatIsReadHasJustTheseBytes(t *testing.T) {
	r := rand.New(rand.NewSource(43))
	taken := 0
	for range 200000 {
		b := make([]byte, 8)
		r.Read(b)
		if r.Intn(2) == 0 {
			b[4], b[5] = b[4]&0x1F, b[5]&0x0F
		}
		may := b[0] < 128 && b[4] < 16 && b[5] < 8
		c, err := cstate.Decode(b)
		if may != (err == api.OK) {
			t.Fatalf("% x: read %v, error %d", b, c, err)
		}
		if may {
			taken++
			wantBytes(t, c, b)
		} else {
			wantNoBytes(t, b)
		}
	}
	if taken == 0 {
		t.Error("none may be")
	}
}

func TestVectorsStandInTheLastTwoBytes(t *testing.T) {
	r := rand.New(rand.NewSource(44))
	for range 20000 {
		a := random(r, api.MaxNodes)
		b := a
		b.Vector ^= api.Group(1 + r.Intn(1<<16-1))
		left, _ := cstate.Encode(a)
		right, _ := cstate.Encode(b)
		if !bytes.Equal(left[:6], right[:6]) || bytes.Equal(left[6:], right[6:]) {
			t.Errorf("%v and %v: bytes % x and % x", a, b, left, right)
		}
	}
}

func TestOthersDifferAheadOfTheLastTwoBytes(t *testing.T) {
	l := []api.Cstate{{}, made(258, 3, 1, 7), made(258, 3, 2, 7), made(258, 4, 1, 7), made(259, 3, 1, 7), made(258+1<<24, 3, 1, 7), made(258+1<<16, 3, 1, 7), made(api.MaxRound, 15, 7, 7)}
	for i, a := range l {
		for j, b := range l {
			left, _ := cstate.Encode(a)
			right, _ := cstate.Encode(b)
			if i != j && bytes.Equal(left[:6], right[:6]) {
				t.Errorf("%v and %v: bytes % x and % x", a, b, left, right)
			}
		}
	}
}

func TestFromSuccessorToSuccessor(t *testing.T) {
	for n := 1; n <= api.MaxNodes; n++ {
		for _, first := range []int{0, 254, 65534, api.MaxRound - 3} {
			c := made(first, 0, 5, 0x9339)
			for round := first; round < first+3; round++ {
				for slot := range n {
					if c != made(round, slot, 5, 0x9339) {
						t.Fatalf("with %d nodes: came to %v, want round %d, slot %d", n, c, round, slot)
					}
					next, err := cstate.Successor(c, n)
					if err != api.OK {
						t.Fatalf("with %d nodes: %v, error %d", n, c, err)
					}
					wantCompare(t, c, next, -1)
					wantCompare(t, next, c, 1)
					wantAgo(t, next, n, 1, c.Round, c.Slot)
					c = next
				}
			}
		}
	}
}

// goneOn is the C-state that comes so many successors behind c.
func goneOn(t *testing.T, c api.Cstate, n, times int) api.Cstate {
	t.Helper()
	for range times {
		next, err := cstate.Successor(c, n)
		if err != api.OK {
			t.Fatalf("with %d nodes: %v has no successor, error %d", n, c, err)
		}
		c = next
	}
	return c
}

func TestSoManySlotsAgoHasItAsItsSuccessor(t *testing.T) {
	r := rand.New(rand.NewSource(45))
	for range 3000 {
		n := 1 + r.Intn(api.MaxNodes)
		c, times := random(r, n), r.Intn(5*n)
		round, slot, err := cstate.Ago(c, n, times)
		if there := c.Round*n + c.Slot; (err == api.OK) != (times <= there) {
			t.Fatalf("%v with %d nodes, %d slots ago: error %d", c, n, times, err)
		}
		if err != api.OK {
			continue
		}
		if got := goneOn(t, made(round, slot, c.Mode, c.Vector), n, times); got != c {
			t.Errorf("with %d nodes, %d slots behind %d, %d: %v, want %v", n, times, round, slot, got, c)
		}
	}
}

func TestOrderIsThatOfSuccessors(t *testing.T) {
	for _, n := range []int{1, 4, 16} {
		l := []api.Cstate{{}}
		for range 3 * n {
			l = append(l, goneOn(t, l[len(l)-1], n, 1))
		}
		if !slices.IsSortedFunc(l, cstate.Compare) {
			t.Errorf("with %d nodes: not in order: %v", n, l)
		}
		for at := range l {
			wantAgo(t, l[len(l)-1], n, len(l)-1-at, l[at].Round, l[at].Slot)
		}
	}
}
