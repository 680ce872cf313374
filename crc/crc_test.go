package crc_test

import (
	"bytes"
	"math/rand"
	"sync"
	"testing"

	"vespers/api"
	"vespers/crc"
)

const most = 1<<24 - 1

// bitByBit goes on from a sum as the chapter's words say it, without a table.
func bitByBit(sum uint32, b []byte) uint32 {
	sum &= most
	for _, x := range b {
		for at := 7; at >= 0; at-- {
			unlike := sum>>23 != uint32(x>>at&1)
			sum = sum << 1 & most
			if unlike {
				sum ^= 0x864CFB
			}
		}
	}
	return sum
}

// sumOf is what Of has to answer.
func sumOf(b []byte) uint32 { return bitByBit(0xB704CE, b) }

// sealed is what Seal has to answer.
func sealed(b []byte) []byte {
	s := sumOf(b)
	return append(bytes.Clone(b), byte(s>>16), byte(s>>8), byte(s))
}

func someBytes(r *rand.Rand, n int) []byte {
	b := make([]byte, n)
	r.Read(b)
	return b
}

func wantSum(t *testing.T, got, want uint32) {
	t.Helper()
	if got != want {
		t.Errorf("sum %06X, want %06X", got, want)
	}
}

func wantOpen(t *testing.T, b, want []byte) {
	t.Helper()
	if got, err := crc.Open(b); err != api.OK || !bytes.Equal(got, want) {
		t.Errorf("opened % x: % x, error %d; want % x", b, got, err, want)
	}
}

func wantShut(t *testing.T, b []byte) {
	t.Helper()
	if got, err := crc.Open(b); err != api.ErrSum || len(got) != 0 {
		t.Errorf("opened % x: % x, error %d; want ErrSum", b, got, err)
	}
}

// The chapter's examples.

func TestExamples(t *testing.T) {
	wantSum(t, crc.Of([]byte("123456789")), 0x21CF02)
	wantSum(t, crc.Of(), 0xB704CE)
	wantSum(t, crc.On(0, []byte{1}), 0x864CFB)
	none := crc.Seal(nil)
	if !bytes.Equal(none, []byte{0xB7, 0x04, 0xCE}) {
		t.Errorf("sealed nothing: % x", none)
	}
	wantOpen(t, none, nil)
	wantShut(t, []byte{0xB7, 0x04})
}

// P2.1

func TestOfOnePart(t *testing.T) {
	r := rand.New(rand.NewSource(21))
	for n := range 300 {
		b := someBytes(r, n)
		wantSum(t, crc.Of(b), sumOf(b))
	}
	for x := range 256 {
		wantSum(t, crc.Of([]byte{byte(x)}), sumOf([]byte{byte(x)}))
	}
	long := someBytes(r, 100000)
	wantSum(t, crc.Of(long), sumOf(long))
}

func TestOfNothing(t *testing.T) {
	for _, parts := range [][][]byte{nil, {}, {nil}, {{}}, {nil, {}, nil}} {
		wantSum(t, crc.Of(parts...), 0xB704CE)
	}
}

func TestOfParts(t *testing.T) {
	r := rand.New(rand.NewSource(22))
	whole := someBytes(r, 40)
	want := sumOf(whole)
	for cut := range len(whole) + 1 {
		wantSum(t, crc.Of(whole[:cut], whole[cut:]), want)
		wantSum(t, crc.Of(nil, whole[:cut], []byte{}, whole[cut:], nil), want)
	}
	var each [][]byte
	for at := range whole {
		each = append(each, whole[at:at+1])
	}
	wantSum(t, crc.Of(each...), want)
}

func TestOfPartsInTheirOrder(t *testing.T) {
	wantSum(t, crc.Of([]byte("12345"), []byte("6789")), 0x21CF02)
	if crc.Of([]byte("6789"), []byte("12345")) == 0x21CF02 {
		t.Error("the order of parts is not seen")
	}
}

func TestOnEachLength(t *testing.T) {
	r := rand.New(rand.NewSource(23))
	for n := range 100 {
		b := someBytes(r, n)
		for _, sum := range []uint32{0, 1, 0x7FFFFF, 0x800000, most - 1, most, 0xB704CE, r.Uint32() & most} {
			wantSum(t, crc.On(sum, b), bitByBit(sum, b))
		}
	}
}

func TestOnNothing(t *testing.T) {
	for _, sum := range []uint32{0, 1, 0x123456, most} {
		wantSum(t, crc.On(sum, nil), sum)
		wantSum(t, crc.On(sum, []byte{}), sum)
	}
}

func TestOnLowestBitsAlone(t *testing.T) {
	r := rand.New(rand.NewSource(24))
	for bit := 24; bit < 32; bit++ {
		sum, above := r.Uint32()&most, uint32(1)<<bit
		for n := range 10 {
			b := someBytes(r, n)
			wantSum(t, crc.On(sum|above, b), bitByBit(sum, b))
		}
	}
	wantSum(t, crc.On(0xFFFFFFFF, nil), most)
	wantSum(t, crc.On(1<<24, nil), 0)
	wantSum(t, crc.On(0xFF000000, []byte{1}), 0x864CFB)
}

func TestOnGoesOn(t *testing.T) {
	r := rand.New(rand.NewSource(25))
	for n := range 50 {
		a, b := someBytes(r, n), someBytes(r, 50-n)
		wantSum(t, crc.On(crc.Of(a), b), crc.Of(a, b))
		sum := r.Uint32()
		wantSum(t, crc.On(crc.On(sum, a), b), crc.On(sum, append(bytes.Clone(a), b...)))
	}
	wantSum(t, crc.On(0xB704CE, []byte("123456789")), 0x21CF02)
}

func TestTable(t *testing.T) {
	table := crc.Table()
	for x, sum := range table {
		wantSum(t, sum, bitByBit(0, []byte{byte(x)}))
		wantSum(t, sum, crc.On(0, []byte{byte(x)}))
	}
	wantSum(t, table[0], 0)
	wantSum(t, table[1], 0x864CFB)
	for x := range 128 {
		wantSum(t, table[2*x]^table[2*x+1], 0x864CFB)
	}
}

func TestTableIsTheSameForAll(t *testing.T) {
	var all sync.WaitGroup
	var seen [8][256]uint32
	for at := range seen {
		all.Go(func() { seen[at] = crc.Table() })
	}
	all.Wait()
	for at := range seen {
		if seen[at] != crc.Table() {
			t.Errorf("asker %d has another table", at)
		}
	}
}

// P2.2

func TestSealAndOpen(t *testing.T) {
	r := rand.New(rand.NewSource(26))
	for n := range 300 {
		b := someBytes(r, n)
		s := crc.Seal(b)
		if !bytes.Equal(s, sealed(b)) {
			t.Errorf("sealed % x: % x, want % x", b, s, sealed(b))
		}
		wantOpen(t, s, b)
	}
	if got := crc.Seal([]byte("123456789")); string(got) != "123456789\x21\xCF\x02" {
		t.Errorf("sealed % x", got)
	}
}

func TestSealOfSumsWithNoughts(t *testing.T) {
	// A sum whose highest, middle or lowest byte is 0 still has three bytes.
	var met [3]int
	for n := range 1 << 16 {
		b := []byte{byte(n >> 8), byte(n)}
		want := sealed(b)
		for at := range met {
			if want[2+at] == 0 {
				met[at]++
				if got := crc.Seal(b); !bytes.Equal(got, want) {
					t.Errorf("sealed % x: % x", b, got)
				}
				wantOpen(t, want, b)
			}
		}
	}
	for at, many := range met {
		if many == 0 {
			t.Errorf("no sum with a nought at %d was met", at)
		}
	}
}

func TestSealNothing(t *testing.T) {
	for _, b := range [][]byte{nil, {}} {
		if s := crc.Seal(b); !bytes.Equal(s, []byte{0xB7, 0x04, 0xCE}) {
			t.Errorf("sealed nothing: % x", s)
		}
	}
}

func TestSealTwice(t *testing.T) {
	b := []byte("twice")
	twice := crc.Seal(crc.Seal(b))
	if !bytes.Equal(twice, sealed(sealed(b))) {
		t.Errorf("sealed twice: % x", twice)
	}
	wantOpen(t, twice, sealed(b))
}

func TestOpenTooFewBytes(t *testing.T) {
	for _, b := range [][]byte{nil, {}, {0}, {0xB7}, {0, 0}, {0xB7, 0x04}, {0x04, 0xCE}} {
		wantShut(t, b)
	}
}

func TestOpenWhatIsNotSealed(t *testing.T) {
	for _, b := range [][]byte{
		{0, 0, 0},
		{0xB7, 0x04, 0xCF},
		{0xCE, 0x04, 0xB7},
		{0, 0xB7, 0x04, 0xCE},
		{0xB7, 0x04, 0xCE, 1},
		[]byte("123456789"),
		[]byte("123456789\x02\xCF\x21"),
		[]byte("123456789\x00\x21\xCF\x02"),
		[]byte("12345678\x21\xCF\x02"),
		[]byte("\x21\xCF\x02123456789"),
	} {
		wantShut(t, b)
	}
}

func TestOpenCutOrLonger(t *testing.T) {
	s := crc.Seal([]byte("whole"))
	for n := range len(s) {
		wantShut(t, s[:n])
		wantShut(t, s[len(s)-n:])
	}
	for x := 1; x < 256; x++ {
		wantShut(t, append(bytes.Clone(s), byte(x)))
	}
	// Over its own bytes a sum becomes 0, and stays so over noughts: these
	// are sealed bytes, by the word's meaning.
	wantOpen(t, append(bytes.Clone(s), 0), s[:len(s)-2])
	wantOpen(t, append(bytes.Clone(s), 0, 0, 0), s)
}

func TestOpenEachSumOfThreeBytes(t *testing.T) {
	// Of three bytes only those are sealed that are the sum of nothing.
	r := rand.New(rand.NewSource(27))
	for range 10000 {
		if s := r.Uint32() & most; s != 0xB704CE {
			wantShut(t, []byte{byte(s >> 16), byte(s >> 8), byte(s)})
		}
	}
}

// P2.3

// roomy is bytes with noughts behind them that belong to the same memory.
func roomy(b []byte) []byte { return append(make([]byte, 0, len(b)+16), b...) }

// wantUntouched looks at what was handed in, and at the room behind it.
func wantUntouched(t *testing.T, b, want []byte) {
	t.Helper()
	if !bytes.Equal(b, want) || !bytes.Equal(b[len(b):cap(b)], make([]byte, cap(b)-len(b))) {
		t.Errorf("handed in, and written: % x", b[:cap(b)])
	}
}

func TestOnlyRead(t *testing.T) {
	b, s := roomy([]byte("bytes")), roomy(sealed([]byte("bytes")))
	parts := [][]byte{b, nil, s}
	crc.Of(parts...)
	crc.Of(b, s)
	crc.On(7, b)
	crc.Seal(b)
	crc.Open(s)
	crc.Open(b)
	wantUntouched(t, b, []byte("bytes"))
	wantUntouched(t, s, sealed([]byte("bytes")))
	if len(parts) != 3 || &parts[0][0] != &b[0] || parts[1] != nil || &parts[2][0] != &s[0] {
		t.Error("the list of parts was written")
	}
}

// scribble writes over all that belongs to an answer's memory.
func scribble(b []byte) {
	for at := range b[:cap(b)] {
		b[:cap(b)][at] = 0xEE
	}
}

func TestSealIsNewMemory(t *testing.T) {
	b := roomy([]byte("bytes"))
	first, second := crc.Seal(b), crc.Seal(b)
	scribble(first)
	wantUntouched(t, b, []byte("bytes"))
	if !bytes.Equal(second, sealed([]byte("bytes"))) {
		t.Errorf("answered, and changed: % x", second)
	}
	scribble(b)
	if !bytes.Equal(second, sealed([]byte("bytes"))) {
		t.Errorf("answered, and changed with what was handed in: % x", second)
	}
}

func TestOpenIsNewMemory(t *testing.T) {
	for _, body := range []string{"", "b", "bytes"} {
		s := roomy(sealed([]byte(body)))
		first, _ := crc.Open(s)
		second, _ := crc.Open(s)
		scribble(first)
		wantUntouched(t, s, sealed([]byte(body)))
		scribble(s)
		if string(second) != body {
			t.Errorf("answered, and changed: % x", second)
		}
	}
}

func TestTableIsNewMemory(t *testing.T) {
	first := crc.Table()
	for at := range first {
		first[at] = 0xEEEEEE
	}
	wantSum(t, crc.Of([]byte("123456789")), 0x21CF02)
	if second := crc.Table(); second == first || second[1] != 0x864CFB {
		t.Error("the table was changed by what was made of its copy")
	}
}

// P2.4

// turned is bytes in which the bits of a pattern are turned, the pattern's
// lowest bit standing at that place from the end.
func turned(b []byte, pattern uint32, place int) []byte {
	c := bytes.Clone(b)
	for at := range 24 {
		if pattern>>at&1 == 1 {
			bit := place + at
			c[len(c)-1-bit/8] ^= 1 << (bit % 8)
		}
	}
	return c
}

// patterns are some of those within 24 bits: each bit alone, each two, each
// run, and many more.
func patterns(r *rand.Rand) []uint32 {
	var l []uint32
	for a := range 24 {
		l = append(l, 1<<a, 1<<(a+1)-1)
		for b := range a {
			l = append(l, 1<<a|1<<b, 1<<(a+1)-1<<b)
		}
	}
	for range 500 {
		l = append(l, 1+uint32(r.Intn(most)))
	}
	return append(l, 0x864CFB, 0xB704CE, 0x800001, most)
}

func TestTurnedBitsAreSeen(t *testing.T) {
	r := rand.New(rand.NewSource(28))
	l := patterns(r)
	for _, n := range []int{0, 1, 2, 5, 13} {
		s := crc.Seal(someBytes(r, n))
		for place := range len(s)*8 - 23 {
			for _, p := range l {
				if _, err := crc.Open(turned(s, p, place)); err != api.ErrSum {
					t.Fatalf("% x with %06x turned at %d: error %d", s, p, place, err)
				}
			}
		}
	}
}

func TestUnlikeMessagesHaveUnlikeSums(t *testing.T) {
	r := rand.New(rand.NewSource(29))
	l := patterns(r)
	for _, n := range []int{3, 4, 9, 16} {
		b := someBytes(r, n)
		for place := range n*8 - 23 {
			for _, p := range l {
				if crc.Of(b) == crc.Of(turned(b, p, place)) {
					t.Fatalf("% x with %06x turned at %d has the same sum", b, p, place)
				}
			}
		}
	}
}

func TestUnlikeShortMessagesHaveUnlikeSums(t *testing.T) {
	// All of one byte, and of two, differ within 24 bits.
	for _, bytesOf := range []int{1, 2} {
		met := make(map[uint32]int)
		for n := range 1 << (8 * bytesOf) {
			sum := crc.Of([]byte{byte(n >> 8), byte(n)}[2-bytesOf:])
			if other, is := met[sum]; is {
				t.Fatalf("%x and %x have the same sum", n, other)
			}
			met[sum] = n
		}
	}
}

// wantEachOnce says whether no two of the 2^24 answers are alike.
func wantEachOnce(t *testing.T, answer func(n uint32) uint32) {
	t.Helper()
	met := make([]bool, most+1)
	for n := range uint32(most + 1) {
		sum := answer(n)
		if sum > most || met[sum] {
			t.Fatalf("%06x: sum %06x is no sum, or another one's too", n, sum)
		}
		met[sum] = true
	}
}

func TestAllOfThreeBytesHaveUnlikeSums(t *testing.T) {
	b := make([]byte, 3)
	wantEachOnce(t, func(n uint32) uint32 {
		b[0], b[1], b[2] = byte(n>>16), byte(n>>8), byte(n)
		return crc.Of(b)
	})
}

func TestUnlikeSumsStayUnlike(t *testing.T) {
	for _, b := range [][]byte{nil, {0}, {0xA5}, []byte("bytes")} {
		wantEachOnce(t, func(n uint32) uint32 { return crc.On(n, b) })
	}
	r := rand.New(rand.NewSource(30))
	for n := range 200 {
		b, sum := someBytes(r, n), r.Uint32()&most
		for bit := range 24 {
			if crc.On(sum, b) == crc.On(sum^1<<bit, b) {
				t.Errorf("%06x with bit %d turned is the same behind % x", sum, bit, b)
			}
		}
	}
}
