package group_test

import (
	"math"
	"slices"
	"testing"

	"vespers/api"
	"vespers/group"
)

const (
	nobody = api.Group(0)
	all    = api.Group(math.MaxUint16)
)

var noNodes = []int{math.MinInt, math.MinInt32, -65536, -65535, -257, -256, -64, -63, -32, -17, -16, -15, -2, -1, 16, 17, 31, 32, 63, 64, 65, 256, 257, 65535, 65536, 1 << 31, 1 << 32, math.MaxInt}

// some are groups of all sizes: none, all, each node alone, each two, each
// run, each of these left out, and patterns.
func some() []api.Group {
	l := []api.Group{nobody, 0x5555, 0x1248, 0x8001, 0x0FF0, 0x8412, 0xC3A5}
	for a := range 16 {
		l = append(l, 1<<a)
		for b := range a {
			l = append(l, 1<<a|1<<b, 1<<(a+1)-1<<b)
		}
	}
	for _, g := range slices.Clone(l) {
		l = append(l, ^g)
	}
	return l
}

// members are a group's nodes, as its bits say them.
func members(g api.Group) []int {
	var l []int
	for n, bit := 0, 1; n < 16; n, bit = n+1, bit*2 {
		if int(g)/bit%2 == 1 {
			l = append(l, n)
		}
	}
	return l
}

// grouped is the group whose members are those nodes.
func grouped(nodes []int) api.Group {
	g := 0
	for n := range 16 {
		if slices.Contains(nodes, n) {
			g += int(math.Pow(2, float64(n)))
		}
	}
	return api.Group(g)
}

// filtered is the group of those of all nodes that are asked for.
func filtered(is func(n int) bool) api.Group {
	var l []int
	for n := range 16 {
		if is(n) {
			l = append(l, n)
		}
	}
	return grouped(l)
}

func wantGroup(t *testing.T, what string, got, want api.Group) {
	t.Helper()
	if got != want {
		t.Errorf("%s: group %016b, want %016b", what, got, want)
	}
}

func wantOf(t *testing.T, nodes []int, want api.Group) {
	t.Helper()
	if g, err := group.Of(nodes...); g != want || err != api.OK {
		t.Errorf("of %v: group %016b, error %d; want %016b", nodes, g, err, want)
	}
}

func wantNotOf(t *testing.T, nodes ...int) {
	t.Helper()
	if g, err := group.Of(nodes...); g != 0 || err != api.ErrArg {
		t.Errorf("of %v: group %016b, error %d; want ErrArg", nodes, g, err)
	}
}

func wantNext(t *testing.T, g api.Group, n, want int) {
	t.Helper()
	if got := group.Next(g, n); got != want {
		t.Errorf("group %016b, next from %d: %d, want %d", g, n, got, want)
	}
}

func wantParse(t *testing.T, s string, want api.Group) {
	t.Helper()
	if g, err := group.Parse(s); g != want || err != api.OK {
		t.Errorf("text %q: group %016b, error %d; want %016b", s, g, err, want)
	}
}

func wantNoText(t *testing.T, s string) {
	t.Helper()
	if g, err := group.Parse(s); g != 0 || err != api.ErrArg {
		t.Errorf("text %q: group %016b, error %d; want ErrArg", s, g, err)
	}
}

// The chapter's examples.

func TestExamples(t *testing.T) {
	g, err := group.Of(1, 4, 15)
	if err != api.OK || group.Text(g) != "14f" {
		t.Errorf("text %q, error %d", group.Text(g), err)
	}
	wantNext(t, g, 4, 15)
	wantNext(t, g, 15, 1)
	wantNext(t, g, 0, 1)
	seven, _ := group.Of(7)
	wantNext(t, seven, 7, 7)
	nothing, err := group.Of()
	if err != api.OK || group.Text(nothing) != "-" {
		t.Errorf("text %q, error %d", group.Text(nothing), err)
	}
	wantNext(t, nothing, 7, -1)
	wantNoText(t, "41")
	wantNoText(t, "11")
	wantNoText(t, "g")
	wantNotOf(t, 16)
}

// P3.1

func TestOf(t *testing.T) {
	for bits := range 1 << 16 {
		wantOf(t, members(api.Group(bits)), api.Group(bits))
	}
}

func TestOfNone(t *testing.T) {
	wantOf(t, nil, nobody)
	wantOf(t, []int{}, nobody)
}

func TestOfInAnyOrder(t *testing.T) {
	wantOf(t, []int{15, 0}, 0x8001)
	wantOf(t, []int{3, 3}, 0x0008)
	wantOf(t, []int{9, 2, 9, 2, 2}, 0x0204)
	wantOf(t, []int{15, 14, 13, 12, 11, 10, 9, 8, 7, 6, 5, 4, 3, 2, 1, 0}, all)
	wantOf(t, slices.Repeat([]int{5, 0}, 1000), 0x0021)
}

func TestOfNoNode(t *testing.T) {
	for _, n := range noNodes {
		wantNotOf(t, n)
		wantNotOf(t, n, 3)
		wantNotOf(t, 3, n)
		wantNotOf(t, 0, 15, n, 7, 8)
		wantNotOf(t, n, n)
	}
}

func TestFirst(t *testing.T) {
	for many := range 17 {
		wantGroup(t, "first", group.First(many), filtered(func(n int) bool { return n < many }))
	}
	wantGroup(t, "first of one", group.First(1), 1)
	wantGroup(t, "first of fifteen", group.First(15), 0x7FFF)
}

func TestFirstOfTooFewOrTooMany(t *testing.T) {
	wantGroup(t, "first of none", group.First(0), nobody)
	for _, many := range noNodes {
		if many < 1 {
			wantGroup(t, "first of too few", group.First(many), nobody)
		} else {
			wantGroup(t, "first of too many", group.First(many), all)
		}
	}
}

func TestHas(t *testing.T) {
	for bits := range 1 << 16 {
		g := api.Group(bits)
		is := filtered(func(n int) bool { return group.Has(g, n) })
		wantGroup(t, "has", is, g)
	}
}

func TestHasNoNode(t *testing.T) {
	for _, n := range noNodes {
		for _, g := range some() {
			if group.Has(g, n) {
				t.Errorf("group %016b has %d", g, n)
			}
		}
	}
}

func TestWithAndWithout(t *testing.T) {
	for _, g := range some() {
		old := members(g)
		for n := range 16 {
			wantGroup(t, "with", group.With(g, n), grouped(append(slices.Clone(old), n)))
			left := slices.DeleteFunc(slices.Clone(old), func(m int) bool { return m == n })
			wantGroup(t, "without", group.Without(g, n), grouped(left))
		}
	}
	wantGroup(t, "with node 0", group.With(nobody, 0), 0x0001)
	wantGroup(t, "with node 15", group.With(nobody, 15), 0x8000)
	wantGroup(t, "without node 0", group.Without(all, 0), 0xFFFE)
	wantGroup(t, "without node 15", group.Without(all, 15), 0x7FFF)
}

func TestWithAndWithoutNoNode(t *testing.T) {
	for _, n := range noNodes {
		for _, g := range some() {
			wantGroup(t, "with no node", group.With(g, n), g)
			wantGroup(t, "without no node", group.Without(g, n), g)
		}
	}
}

func TestBothAndLess(t *testing.T) {
	for _, a := range some() {
		for _, b := range some() {
			left, right := members(a), members(b)
			both := slices.DeleteFunc(slices.Clone(left), func(n int) bool { return !slices.Contains(right, n) })
			wantGroup(t, "both", group.Both(a, b), grouped(both))
			less := slices.DeleteFunc(left, func(n int) bool { return slices.Contains(right, n) })
			wantGroup(t, "less", group.Less(a, b), grouped(less))
		}
	}
	wantGroup(t, "both of halves", group.Both(0x00FF, 0x0FF0), 0x00F0)
	wantGroup(t, "less a half", group.Less(0x00FF, 0x0FF0), 0x000F)
}

// P3.2

func TestCountAndList(t *testing.T) {
	for bits := range 1 << 16 {
		g := api.Group(bits)
		want := members(g)
		if n := group.Count(g); n != len(want) {
			t.Errorf("group %016b counts %d", g, n)
		}
		if l := group.List(g); !slices.Equal(l, want) {
			t.Errorf("group %016b lists %v", g, l)
		}
	}
}

func TestCountAndListEdges(t *testing.T) {
	if group.Count(nobody) != 0 || len(group.List(nobody)) != 0 {
		t.Error("none of none")
	}
	if group.Count(all) != 16 || !slices.Equal(group.List(all), []int{0, 1, 2, 3, 4, 5, 6, 7, 8, 9, 10, 11, 12, 13, 14, 15}) {
		t.Errorf("all: %d, %v", group.Count(all), group.List(all))
	}
	if !slices.Equal(group.List(0x8001), []int{0, 15}) {
		t.Errorf("ends: %v", group.List(0x8001))
	}
}

// nextOf is the member that stands behind n, or else the first of all.
func nextOf(l []int, n int) int {
	for _, m := range l {
		if m > n {
			return m
		}
	}
	if len(l) > 0 {
		return l[0]
	}
	return -1
}

func TestNext(t *testing.T) {
	for bits := range 1 << 16 {
		g := api.Group(bits)
		l := members(g)
		for n := range 16 {
			wantNext(t, g, n, nextOf(l, n))
		}
	}
}

func TestNextOfTheOnlyOne(t *testing.T) {
	for own := range 16 {
		for n := range 16 {
			wantNext(t, 1<<own, n, own)
		}
	}
}

func TestNextFromOneThatIsNoMember(t *testing.T) {
	g := api.Group(0x0124) // 2, 5, 8
	for n, want := range []int{2, 2, 5, 5, 5, 8, 8, 8, 2, 2, 2, 2, 2, 2, 2, 2} {
		wantNext(t, g, n, want)
	}
}

func TestNextRoundAbout(t *testing.T) {
	wantNext(t, all, 15, 0)
	wantNext(t, all, 14, 15)
	wantNext(t, all, 0, 1)
	wantNext(t, 0x8001, 15, 0)
	wantNext(t, 0x8001, 0, 15)
	wantNext(t, 0x4000, 15, 14)
}

func TestNextOfNone(t *testing.T) {
	for n := range 16 {
		wantNext(t, nobody, n, -1)
	}
}

func TestNextFromNoNode(t *testing.T) {
	for _, n := range noNodes {
		for _, g := range some() {
			wantNext(t, g, n, -1)
		}
	}
}

func TestRank(t *testing.T) {
	for bits := range 1 << 16 {
		g := api.Group(bits)
		below := 0
		for n := range 16 {
			if got := group.Rank(g, n); got != below {
				t.Errorf("group %016b ranks %d as %d, want %d", g, n, got, below)
			}
			below += bits >> n & 1
		}
	}
}

func TestRankOfNoNode(t *testing.T) {
	for _, n := range noNodes {
		for _, g := range some() {
			want := 0
			if n > 15 {
				want = len(members(g))
			}
			if got := group.Rank(g, n); got != want {
				t.Errorf("group %016b ranks %d as %d, want %d", g, n, got, want)
			}
		}
	}
}

// P3.3

// textOf is a group's text by the chapter's words.
func textOf(g api.Group) string {
	text := ""
	for _, n := range members(g) {
		text += "0123456789abcdef"[n : n+1]
	}
	if text == "" {
		return "-"
	}
	return text
}

func TestTextAndParse(t *testing.T) {
	for bits := range 1 << 16 {
		g := api.Group(bits)
		text := textOf(g)
		if got := group.Text(g); got != text {
			t.Errorf("group %016b has the text %q, want %q", g, got, text)
		}
		wantParse(t, text, g)
	}
	wantParse(t, "0123456789abcdef", all)
	wantParse(t, "-", nobody)
	wantParse(t, "0", 0x0001)
	wantParse(t, "9a", 0x0600)
	wantParse(t, "f", 0x8000)
}

func TestParseNoText(t *testing.T) {
	for _, s := range []string{
		"",
		"41", "0a9", "ba", "fedcba9876543210", "10", "a0", "0132", "f0", // not rising
		"11", "00", "ff", "0011", "0123456789abcdeff", "00123456789abcdef", // a digit twice
		"g", "G", "z", ".", "/", ":", "`", "@", "1g", "g1", "1 4", " 1", "1 ", "1\n", "1,4", "+1", "0x1", "1_4", "\x00", "1\x00", "\x01", "\x0f",
		"A", "F", "aB", "1F", "ABCDEF", // upper-case letters
		"--", "-1", "1-", "- ", " -", "-f", "f-", "1-4", "-\x00", // the text of none, with more
		"−", "–", "—", "_", // signs that look like it
		"１", "٣", "ａ", "1٣", "à", "é", "ı", "\u0130", "\u0161", "\U00010031", "\u3031", // signs whose lowest bits are a digit's, or that look like one
		"\ufffd", "1\ufffd", "\xff", "1\x80", "\xe1", "\xc0\xb1", "1\xf0", // no runes
	} {
		wantNoText(t, s)
	}
}

func TestParseEachSign(t *testing.T) {
	for r := range rune(0x20000) {
		s := string(r)
		switch {
		case r >= '0' && r <= '9', r >= 'a' && r <= 'f', r == '-':
			if g, err := group.Parse(s); err != api.OK || textOf(g) != s {
				t.Errorf("text %q: group %016b, error %d", s, g, err)
			}
		default:
			wantNoText(t, s)
		}
	}
	for b := 0x80; b < 0x100; b++ {
		wantNoText(t, string([]byte{byte(b)}))
	}
}

func TestParseTwoSigns(t *testing.T) {
	for a := range 128 {
		for b := range 128 {
			s := string([]byte{byte(a), byte(b)})
			g, err := group.Parse(s)
			if err == api.OK && textOf(g) != s || err != api.OK && (err != api.ErrArg || g != 0) {
				t.Errorf("text %q: group %016b, error %d", s, g, err)
			}
		}
	}
	for b := 1; b < 16; b++ {
		for a := range b {
			wantParse(t, textOf(1<<a)+textOf(1<<b), 1<<a|1<<b)
		}
	}
}

func TestParseLongText(t *testing.T) {
	long := make([]byte, 1<<20)
	for _, b := range []byte{'0', '-', 'f', 'x', 0} {
		for at := range long {
			long[at] = b
		}
		wantNoText(t, string(long))
	}
	wantNoText(t, "0123456789abcdef"+string(long))
}

// P3.4

func TestListIsNewMemory(t *testing.T) {
	first, second := group.List(0x0124), group.List(0x0124)
	first = first[:cap(first)]
	for at := range first {
		first[at] = 99
	}
	if !slices.Equal(second, []int{2, 5, 8}) {
		t.Errorf("answered, and changed: %v", second)
	}
	if third := group.List(0x0124); !slices.Equal(third, []int{2, 5, 8}) {
		t.Errorf("answered anew, and changed: %v", third)
	}
	_ = append(group.List(nobody), 7)
	if l := group.List(nobody); len(l) != 0 {
		t.Errorf("none lists %v", l)
	}
}

func TestOfOnlyReads(t *testing.T) {
	nodes := make([]int, 3, 8)
	copy(nodes, []int{9, 2, 9})
	group.Of(nodes...)
	if room := nodes[:8]; !slices.Equal(room, []int{9, 2, 9, 0, 0, 0, 0, 0}) {
		t.Errorf("handed in, and written: %v", room)
	}
}

// P3.5

func TestFromNextToNextAndBack(t *testing.T) {
	for bits := 1; bits < 1<<16; bits++ {
		g := api.Group(bits)
		for _, start := range members(g) {
			var met []int
			for n := group.Next(g, start); ; n = group.Next(g, n) {
				met = append(met, n)
				if n == start || len(met) > 16 {
					break
				}
			}
			slices.Sort(met)
			if !slices.Equal(met, members(g)) {
				t.Fatalf("group %016b, from %d: met %v", g, start, met)
			}
		}
	}
}

func TestGroupIsThatOfItsListAndOfItsText(t *testing.T) {
	for bits := range 1 << 16 {
		g := api.Group(bits)
		wantOf(t, group.List(g), g)
		wantParse(t, group.Text(g), g)
	}
}

func TestUnlikeGroupsHaveUnlikeTexts(t *testing.T) {
	met := make(map[string]api.Group)
	for bits := range 1 << 16 {
		text := group.Text(api.Group(bits))
		if other, is := met[text]; is {
			t.Fatalf("%016b and %016b have the text %q", bits, other, text)
		}
		met[text] = api.Group(bits)
	}
}
