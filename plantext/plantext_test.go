package plantext_test

import (
	"fmt"
	"math"
	"math/rand"
	"slices"
	"strings"
	"testing"

	"vespers/api"
	"vespers/plan"
	"vespers/plantext"
)

// four is the least plan of four nodes.
var four = api.Plan{
	Nodes: 4, K: 1, Slot: 512, SendOff: 248, Window: 96, Air: 1, Dmin: 1, Dmax: 3, Rho: 100000, Pi: 88, Cap: 64,
	Delta: 10416, Queue: 2, Burst: 1, Payload: 8, Horizon: 81920,
}

// fourShown is what is shown of it.
const fourShown = `nodes = 4
k = 1
slot = 512
sendoff = 248
window = 96
air = 1
dmin = 1
dmax = 3
rho = 100000
pi = 88
cap = 64
delta = 10416
queue = 2
burst = 1
payload = 8
horizon = 81920
`

// counting has the numbers from 1 on: it is no plan that may be.
var counting = api.Plan{
	Nodes: 1, K: 2, Slot: 3, SendOff: 4, Window: 5, Air: 6, Dmin: 7, Dmax: 8, Rho: 9, Pi: 10, Cap: 11,
	Delta: 12, Queue: 13, Burst: 14, Payload: 15, Horizon: 16,
}

// greatest is the greatest number that is read.
const greatest = 999999999999999

func linesOf(text string) []string { return strings.Split(strings.TrimSuffix(text, "\n"), "\n") }

// but is a text with one of its lines, numbered from 1 on, another one.
func but(text string, line int, other string) string {
	all := linesOf(text)
	all[line-1] = other
	return strings.Join(all, "\n") + "\n"
}

func short(text string) string {
	if len(text) > 600 {
		return fmt.Sprintf("%q.. (%d bytes)", text[:600], len(text))
	}
	return fmt.Sprintf("%q", text)
}

func wantPlan(t *testing.T, text string, want api.Plan) {
	t.Helper()
	if p, line, err := plantext.Parse(text); err != api.OK || line != 0 || p != want {
		t.Errorf("%s says %+v, line %d, error %d; want %+v", short(text), p, line, err, want)
	}
	wantLoad(t, text, want)
}

// wantLoad wants of a text that says that plan what Load has to answer.
func wantLoad(t *testing.T, text string, said api.Plan) {
	t.Helper()
	want, wantErr := said, api.OK
	if plan.Fails(said) != 0 {
		want, wantErr = api.Plan{}, api.ErrPlan
	}
	if p, err := plantext.Load(text); err != wantErr || p != want {
		t.Errorf("%s is loaded as %+v, error %d; want %+v, %d", short(text), p, err, want, wantErr)
	}
}

func wantNoPlan(t *testing.T, text string, wantLine int) {
	t.Helper()
	if p, line, err := plantext.Parse(text); err != api.ErrText || line != wantLine || p != (api.Plan{}) {
		t.Errorf("%s says %+v, line %d, error %d; want ErrText, line %d", short(text), p, line, err, wantLine)
	}
	if p, err := plantext.Load(text); err != api.ErrText || p != (api.Plan{}) {
		t.Errorf("%s is loaded as %+v, error %d; want ErrText", short(text), p, err)
	}
}

// wantByTheWords wants of a text what the chapter's words say.
func wantByTheWords(t *testing.T, text string) {
	t.Helper()
	p, line, err := parsed(text)
	if err != api.OK {
		wantNoPlan(t, text, line)
	} else {
		wantPlan(t, text, p)
	}
}

func wantShown(t *testing.T, p api.Plan, want string) {
	t.Helper()
	if text := plantext.Show(p); text != want {
		t.Errorf("of %+v is shown %q, want %q", p, text, want)
	}
}

func wantValue(t *testing.T, p api.Plan, name string, want int64, wantIs bool) {
	t.Helper()
	if n, is := plantext.Value(p, name); n != want || is != wantIs {
		t.Errorf("value %q of %+v: %d, %v; want %d, %v", name, p, n, is, want, wantIs)
	}
}

// P8.1

func TestExamples(t *testing.T) {
	wantNoPlan(t, "", 0)
	wantNoPlan(t, "nodes = 4", 0)
	wantNoPlan(t, "nodes = 4\nk = 01", 2)
	wantNoPlan(t, "nodes = 4 # four\n\nnodes=5", 3)
	for _, p := range []api.Plan{four, counting, {}} {
		wantNoPlan(t, strings.Replace(plantext.Show(p), "\npi = ", "\nk = ", 1), 10)
	}
}

func TestParseReadsAPlan(t *testing.T) {
	wantPlan(t, fourShown, four)
	wantPlan(t, strings.TrimSuffix(fourShown, "\n"), four)
	wantPlan(t, strings.ReplaceAll(fourShown, " ", ""), four)
	wantPlan(t, "\n\n"+fourShown+"\n\n", four)
	wantPlan(t, "# a plan\n"+strings.ReplaceAll(fourShown, "\n", " # a number\n\n")+"# its end", four)
}

// A plan that is read need not be one that may be, but one that is loaded has to be.
func TestLoadAsksWhetherThePlanMayBe(t *testing.T) {
	wantPlan(t, shown(counting), counting)
	wantPlan(t, shown(api.Plan{}), api.Plan{})
	for _, f := range fields() {
		for _, n := range []int64{0, f.get(four) + 1, greatest} {
			p := four
			f.set(&p, n)
			wantPlan(t, shown(p), p)
		}
	}
	if p, err := plantext.Load(fourShown); err != api.OK || p != four {
		t.Errorf("%+v, error %d", p, err)
	}
	if p, err := plantext.Load(shown(counting)); err != api.ErrPlan || p != (api.Plan{}) {
		t.Errorf("%+v, error %d", p, err)
	}
}

// A text that is wrong is so whatever plan its numbers would be.
func TestLoadOfAWrongTextIsErrText(t *testing.T) {
	for _, p := range []api.Plan{four, counting} {
		wantNoPlan(t, shown(p)+"k = 1", 17)
		wantNoPlan(t, strings.Replace(shown(p), "=", ":", 1), 1)
		wantNoPlan(t, strings.Join(linesOf(shown(p))[1:], "\n"), 0)
	}
}

func TestEachNumberIsReadByItsName(t *testing.T) {
	for _, f := range fields() {
		for _, n := range []int64{0, 1, 9, 10, 4711, greatest} {
			p := counting
			f.set(&p, n)
			wantPlan(t, shown(p), p)
		}
	}
}

func TestLengthOfAText(t *testing.T) {
	fill := func(text string, size int) string { return text + strings.Repeat(" ", size-len(text)) }
	wantPlan(t, fill(fourShown, 3999), four)
	wantPlan(t, fill(fourShown, 4000), four)
	wantNoPlan(t, fill(fourShown, 4001), 0)
	wantNoPlan(t, fill(fourShown, 4002), 0)
	wantNoPlan(t, fill(fourShown, 1<<20), 0)

	remarks := fourShown + "#" + strings.Repeat("x", 4000-len(fourShown)-1)
	wantPlan(t, remarks, four)
	wantNoPlan(t, remarks+"x", 0)
	feeds := strings.Repeat("\n", 4000-len(fourShown)) + fourShown
	wantPlan(t, feeds, four)
	wantNoPlan(t, "\n"+feeds, 0)

	wrong := "nodes = 04\n" + fourShown
	wantNoPlan(t, fill(wrong, 4000), 1)
	wantNoPlan(t, fill(wrong, 4001), 0)
	wantNoPlan(t, fill(fourShown+"k = 1", 4000), 17)
	wantNoPlan(t, fill(fourShown+"k = 1", 4001), 0)
	wantNoPlan(t, strings.Repeat("\n", 3999)+"?", 4000)
	wantNoPlan(t, strings.Repeat("\n", 4000)+"?", 0)
	wantNoPlan(t, strings.Repeat("\n", 4000), 0)
	wantNoPlan(t, strings.Repeat(" ", 4000), 0)
	wantNoPlan(t, strings.Repeat("x", 4000), 1)
	wantNoPlan(t, strings.Repeat("x", 4001), 0)
	wantNoPlan(t, fill("nodes = 4", 4000), 0)
}

func TestLinesAreNumberedFromOne(t *testing.T) {
	for line := 1; line <= 16; line++ {
		wantNoPlan(t, but(fourShown, line, "?"), line)
	}
	wantNoPlan(t, "?", 1)
	wantNoPlan(t, "?\n", 1)
	wantNoPlan(t, "\n?", 2)
	wantNoPlan(t, "\n?\n", 2)
	wantNoPlan(t, "\n\n# remark\n \t\n?", 5)
	wantNoPlan(t, fourShown+"?", 17)
	wantNoPlan(t, fourShown+"\n?", 18)
	wantNoPlan(t, strings.TrimSuffix(fourShown, "\n")+"?", 16)
	wantNoPlan(t, fourShown+strings.Repeat("\n", 1000)+"?", 1017)
}

func TestLinesThatSayNothing(t *testing.T) {
	for _, line := range []string{"", " ", "\t", " \t \t ", "#", "##", "# nodes = 4", " \t# nodes = 5", "#k=01", "#\x00\xff\r", "# = # ="} {
		wantPlan(t, strings.ReplaceAll("\n"+fourShown, "\n", "\n"+line+"\n"), four)
		wantNoPlan(t, line, 0)
		wantNoPlan(t, line+"\n"+line, 0)
		wantNoPlan(t, line+"\n?\n"+line, 2)
	}
}

func TestBlanksOfALine(t *testing.T) {
	some := []string{"", " ", "\t", "  ", " \t", "\t \t  \t"}
	for _, begin := range some {
		for _, ahead := range some {
			for _, behind := range some {
				for _, end := range some {
					wantPlan(t, but(fourShown, 11, begin+"cap"+ahead+"="+behind+"64"+end), four)
				}
			}
		}
	}
	// Nothing else is a blank.
	for _, other := range []string{"\r", "\v", "\f", "\x00", "\u00a0", "\u0085", "\u2003", "\u3000", "\ufeff", "_", "."} {
		for _, line := range []string{other + "cap=64", "cap" + other + "=64", "cap=" + other + "64", "cap=64" + other, other} {
			wantNoPlan(t, but(fourShown, 11, line), 11)
		}
		wantPlan(t, but(fourShown, 11, "cap=64#"+other), four)
	}
}

func TestRemarks(t *testing.T) {
	for _, right := range []string{
		"cap = 64#", "cap = 64 # sixty-four", "cap=64#4", "cap=64##", "cap = 64 # cap = 65", "cap = 64#=", "cap = 64\t#\t", "cap = 64 #\xff\x00\r",
	} {
		wantPlan(t, but(fourShown, 11, right), four)
	}
	less := four
	less.Cap = 6
	wantPlan(t, but(fourShown, 11, "cap = 6#4"), less)
	for _, wrong := range []string{"ca#p = 64", "cap# = 64", "cap #= 64", "cap =# 64", "cap = #64", "c#", "= # cap", "64 # cap ="} {
		wantNoPlan(t, but(fourShown, 11, wrong), 11)
	}
	// A name that is in a remark is not said.
	wantNoPlan(t, but(fourShown, 11, "#cap = 64"), 0)
	wantNoPlan(t, but(fourShown, 11, " # cap = 64"), 0)
	wantPlan(t, but(fourShown, 11, "#cap = 64")+"cap = 64", four)
}

func TestNumbersOfALine(t *testing.T) {
	for _, right := range []int64{0, 1, 2, 9, 10, 90, 99, 100, 123456789, 9876543210, 100000000000000, 123456789012345, greatest} {
		p := four
		p.Horizon = right
		wantPlan(t, but(fourShown, 16, fmt.Sprintf("horizon = %d", right)), p)
	}
	for digits := 1; digits <= 40; digits++ {
		for _, first := range []string{"0", "1", "9"} {
			line := but(fourShown, 16, "horizon = "+first+strings.Repeat("0", digits-1))
			if digits > 15 || first == "0" && digits > 1 {
				wantNoPlan(t, line, 16)
			} else {
				wantByTheWords(t, line)
			}
		}
	}
	for _, wrong := range []string{
		"", "00", "01", "007", "000000000000000", "012345678901234", "0000000000000001", "1000000000000000", "9999999999999999",
		"9223372036854775807", "9223372036854775808", "18446744073709551617", strings.Repeat("1", 3000),
		"+1", "-1", "-0", "- 1", "1-", "1 2", "1\t2", "1,000", "1_000", "1.0", "1.", ".1", "1e3", "0x10", "0b1", "0o7", "1k", "k", "x", "'1'", "\"1\"", "(1)",
		"1;", "/", ":", "1/", "1:", "\x001", "1\x00", "1\r", "\r1", "١", "１", "²", "\xff", "1\xff", "one",
	} {
		wantNoPlan(t, but(fourShown, 16, "horizon = "+wrong), 16)
		wantNoPlan(t, but(fourShown, 16, "horizon="+wrong), 16)
		wantNoPlan(t, but(fourShown, 1, "nodes = "+wrong), 1)
	}
}

// Each byte behind a digit, and alone.
func TestBytesThatAreNoDigits(t *testing.T) {
	for b := range 256 {
		one := string([]byte{byte(b)})
		wantByTheWords(t, but(fourShown, 15, "payload = "+one))
		wantByTheWords(t, but(fourShown, 15, "payload = 8"+one))
		wantByTheWords(t, but(fourShown, 15, "payload = 8"+one+"8"))
		wantByTheWords(t, but(fourShown, 15, "payload "+one+" 8"))
		wantByTheWords(t, but(fourShown, 15, "payload"+one+"= 8"))
		wantByTheWords(t, but(fourShown, 15, one+"payload = 8"))
		wantByTheWords(t, but(fourShown, 15, "pay"+one+"oad = 8"))
		wantByTheWords(t, but(fourShown, 15, one))
	}
}

func TestNamesThatThereAreNot(t *testing.T) {
	for i, name := range names() {
		for _, wrong := range []string{
			strings.ToUpper(name), strings.ToUpper(name[:1]) + name[1:], name + "s", name + name, name + "1", "x" + name, name[:len(name)-1], name[1:],
			name + " " + name, name[:1] + " " + name[1:] + "x", "." + name, name + ".", "\"" + name + "\"", name + "\x00", name + "\r", "\ufeff" + name, name + "\u0301",
		} {
			wantNoPlan(t, but(fourShown, i+1, wrong+" = 1"), i+1)
		}
		for cut := 1; cut < len(name); cut++ {
			wantNoPlan(t, but(fourShown, i+1, name[:cut]+" "+name[cut:]+" = 1"), i+1)
			wantNoPlan(t, but(fourShown, i+1, name[:cut]+"\t"+name[cut:]+" = 1"), i+1)
		}
	}
	for _, wrong := range []string{"", "node", "Nodes", "sendOff", "send off", "SendOff", "send_off", "window ticks", "4", "=", "mode", "vector", "ꓗ", "κ", "\u212a"} {
		wantNoPlan(t, wrong+" = 1", 1)
		wantNoPlan(t, wrong+"=1\n"+fourShown, 1)
		wantNoPlan(t, fourShown+wrong+" = 1", 17)
	}
}

func TestSignsOfALine(t *testing.T) {
	for _, wrong := range []string{
		"cap", "cap 64", "cap64", "64", "=", "= 64", "cap =", "cap = ", "cap == 64", "cap = = 64", "cap = 64 =", "cap =64=", "=cap = 64", "cap := 64",
		"cap: 64", "cap < 64", "cap =\u00a064", "64 = cap", "cap = cap", "cap = 64 cap = 64", "cap = 64, dmax = 3", "cap = 64;", "// cap = 64", "; cap", "cap ＝ 64",
	} {
		wantNoPlan(t, but(fourShown, 11, wrong), 11)
		wantNoPlan(t, wrong, 1)
	}
}

func TestCarriageReturns(t *testing.T) {
	wantNoPlan(t, strings.ReplaceAll(fourShown, "\n", "\r\n"), 1)
	wantNoPlan(t, strings.ReplaceAll(fourShown, "\n", "\r"), 1)
	wantNoPlan(t, fourShown+"\r", 17)
	wantNoPlan(t, fourShown+"\r\n", 17)
	wantNoPlan(t, "\r\n"+fourShown, 1)
	wantPlan(t, strings.ReplaceAll(fourShown, "\n", "#\r\n"), four)
}

func TestBytesThatAreNoText(t *testing.T) {
	for _, wrong := range []string{"\x00", "\xff", "\xc3", "\xe2\x82", "\xed\xa0\x80", "\xf4\x90\x80\x80", "\x80\x80"} {
		wantNoPlan(t, wrong, 1)
		wantNoPlan(t, wrong+fourShown, 1)
		wantNoPlan(t, fourShown+wrong, 17)
		wantNoPlan(t, but(fourShown, 7, "dmin = 1"+wrong), 7)
		wantNoPlan(t, but(fourShown, 7, wrong+"dmin = 1"), 7)
		wantNoPlan(t, but(fourShown, 7, "dmin"+wrong+" = 1"), 7)
		wantPlan(t, but(fourShown, 7, "dmin = 1#"+wrong), four)
	}
}

func TestNamesThatAreSaidTwice(t *testing.T) {
	for i, f := range fields() {
		same := fmt.Sprintf("%s = %d", f.name, f.get(four))
		other := fmt.Sprintf("%s=%d", f.name, f.get(four)+1)
		wantNoPlan(t, fourShown+same, 17)
		wantNoPlan(t, fourShown+other, 17)
		wantNoPlan(t, fourShown+"\n"+same+"\n"+other, 18)
		wantNoPlan(t, same+"\n"+fourShown, i+2)
		wantNoPlan(t, other+"\n"+fourShown, i+2)
		wantNoPlan(t, same+"\n"+same, 2)
		wantNoPlan(t, same+"\n"+same+"\n"+same, 2)
		for j, g := range fields() {
			if i == j {
				continue
			}
			// It is said where another one ought to be: which of the two is ahead has not the fault.
			wantNoPlan(t, but(fourShown, i+1, fmt.Sprintf("%s = 1", g.name)), max(i, j)+1)
		}
	}
}

func TestOfTwoFaultsTheFirstLineIsTold(t *testing.T) {
	wantNoPlan(t, "nodes = 4\n?\nnodes = 4", 2)
	wantNoPlan(t, "nodes = 4\nnodes = 4\n?", 2)
	wantNoPlan(t, "?\n?", 1)
	wantNoPlan(t, "nodes = 4\nk = 1\nk = 1\nnodes = 4", 3)
	// A line that has not the form says no name.
	wantNoPlan(t, "nodes = 04\nnodes = 4", 1)
	wantNoPlan(t, "nodes = 4\nnodes = 04", 2)
	wantNoPlan(t, "nodes = 4\nnodes", 2)
	for a := 1; a <= 16; a++ {
		for b := 1; b <= 16; b++ {
			wantNoPlan(t, but(but(fourShown, a, "?"), b, "k ="), min(a, b))
		}
	}
}

func TestNamesThatAreNotSaid(t *testing.T) {
	for a := 1; a <= 16; a++ {
		wantNoPlan(t, but(fourShown, a, ""), 0)
		wantNoPlan(t, but(fourShown, a, "# nothing"), 0)
		for b := 1; b <= 16; b++ {
			wantNoPlan(t, but(but(fourShown, a, ""), b, " "), 0)
			if a != b {
				wantNoPlan(t, but(but(fourShown, a, ""), b, "?"), b)
			}
		}
	}
	all := linesOf(fourShown)
	for n := range all {
		wantNoPlan(t, strings.Join(all[:n], "\n"), 0)
	}
}

func TestTextsByTheWords(t *testing.T) {
	r := rand.New(rand.NewSource(8))
	right := 0
	for range 20000 {
		text := someText(r)
		wantByTheWords(t, text)
		if _, _, err := parsed(text); err == api.OK {
			right++
		}
	}
	if right < 2000 || right > 18000 {
		t.Errorf("%d of the texts say a plan: too few, or too many", right)
	}
}

// someText is a plan's text in any order, with remarks and blanks, and mostly
// with a few pieces of it turned into others.
func someText(r *rand.Rand) string {
	text := mixed(r, randomPlan(r))
	pieces := []string{"\n", "#", "=", " ", "\t", "0", "1", "9", "-", "+", "k", "nodes", "pi = 3", "\r", "\x00", "\xff", "é", "\n\n", "x", "K", "\nk=1\n"}
	for range r.Intn(4) {
		at := r.Intn(len(text) + 1)
		end := min(len(text), at+r.Intn(3))
		text = text[:at] + pieces[r.Intn(len(pieces))] + text[end:]
	}
	return text
}

// mixed is a plan's text in any order, with remarks and blanks between.
func mixed(r *rand.Rand, p api.Plan) string {
	blanks := func() string {
		return []string{"", "", " ", "\t", "  ", "\t ", " \t \t"}[r.Intn(7)]
	}
	remark := func() string {
		return []string{"", "", "", "#", "# remark", "#nodes = 1", "## = #", "#\r\x00\xff"}[r.Intn(8)]
	}
	all := fields()
	r.Shuffle(len(all), func(a, b int) { all[a], all[b] = all[b], all[a] })
	var lines []string
	for _, f := range all {
		for range r.Intn(3) {
			lines = append(lines, blanks()+remark())
		}
		lines = append(lines, blanks()+f.name+blanks()+"="+blanks()+fmt.Sprint(f.get(p))+blanks()+remark())
	}
	text := strings.Join(lines, "\n")
	if r.Intn(2) == 0 {
		text += "\n" + blanks() + remark()
	}
	return text
}

// randomPlan has numbers of 1 to 15 digits.
func randomPlan(r *rand.Rand) api.Plan {
	numbers := make([]int64, 16)
	for i := range numbers {
		most := int64(math.Pow10(1 + r.Intn(15)))
		numbers[i] = r.Int63n(most)
	}
	return planOf(numbers)
}

func TestWholeRunsOfBytes(t *testing.T) {
	const bytes = "nodesk =0123#\n\t\xff\r"
	r := rand.New(rand.NewSource(81))
	for range 3000 {
		text := make([]byte, r.Intn(60))
		for i := range text {
			text[i] = bytes[r.Intn(len(bytes))]
		}
		wantByTheWords(t, string(text))
	}
}

// P8.2

func TestShow(t *testing.T) {
	wantShown(t, four, fourShown)
	wantShown(t, counting, shown(counting))
	zero := strings.Join(names(), " = 0\n") + " = 0\n"
	wantShown(t, api.Plan{}, zero)
}

func TestShowOfEachNumber(t *testing.T) {
	for i, f := range fields() {
		for _, n := range []int64{math.MinInt64, math.MinInt64 + 1, -1 << 32, -greatest, -10, -1, 0, 1, 10, 1 << 31, greatest, greatest + 1, math.MaxInt64 - 1, math.MaxInt64} {
			p := counting
			f.set(&p, n)
			wantShown(t, p, but(shown(counting), i+1, fmt.Sprintf("%s = %d", f.name, n)))
			wantValue(t, p, f.name, n, true)
		}
	}
}

func TestShowOfPlansOfAllKinds(t *testing.T) {
	r := rand.New(rand.NewSource(82))
	for range 2000 {
		numbers := make([]int64, 16)
		for i := range numbers {
			numbers[i] = int64(r.Uint64()) >> r.Intn(64)
		}
		p := planOf(numbers)
		wantShown(t, p, shown(p))
	}
	least, most := planOf(slices.Repeat([]int64{math.MinInt64}, 16)), planOf(slices.Repeat([]int64{math.MaxInt64}, 16))
	wantShown(t, least, strings.Join(names(), " = -9223372036854775808\n")+" = -9223372036854775808\n")
	wantShown(t, most, strings.Join(names(), " = 9223372036854775807\n")+" = 9223372036854775807\n")
}

func TestNames(t *testing.T) {
	if all := plantext.Names(); !slices.Equal(all, names()) {
		t.Errorf("names %q, want %q", all, names())
	}
	if all := plantext.Names(); len(all) != 16 {
		t.Errorf("%d names", len(all))
	}
}

func TestValue(t *testing.T) {
	for i, name := range names() {
		wantValue(t, counting, name, int64(i+1), true)
		wantValue(t, api.Plan{}, name, 0, true)
	}
	for _, name := range []string{"", " ", "Nodes", "K", "NODES", "node", "nodess", "nodes ", " nodes", "send off", "sendOff", "k=", "=", "#", "0", "1", "\x00", "\xff", "pi\n", "k\x00", strings.Repeat("k", 5000)} {
		wantValue(t, counting, name, 0, false)
		wantValue(t, api.Plan{}, name, 0, false)
	}
}

// P8.3

func TestNamesAreNewEachTime(t *testing.T) {
	one, two := plantext.Names(), plantext.Names()
	slices.Reverse(one)
	one[3] = "mine"
	_ = append(one[:5], "more")
	if !slices.Equal(two, names()) {
		t.Errorf("names that were told ahead: %q", two)
	}
	if again := plantext.Names(); !slices.Equal(again, names()) {
		t.Errorf("names asked again: %q", again)
	}
	wantShown(t, four, fourShown)
	wantPlan(t, fourShown, four)
	wantValue(t, four, "sendoff", 248, true)
	wantValue(t, four, "mine", 0, false)
}

func TestCallsLeaveNothingBehind(t *testing.T) {
	for range 3 {
		wantPlan(t, fourShown, four)
		wantNoPlan(t, "nodes = 4", 0)
		wantNoPlan(t, "nodes = 4\nk = 01", 2)
		wantPlan(t, shown(counting), counting)
		wantNoPlan(t, "", 0)
	}
	p := four
	plantext.Show(p)
	plantext.Value(p, "k")
	if p != four {
		t.Errorf("the plan is %+v", p)
	}
}

// P8.4

func TestWhatIsShownIsRead(t *testing.T) {
	wantRead := func(p api.Plan) {
		t.Helper()
		wantPlan(t, plantext.Show(p), p)
	}
	wantRead(four)
	wantRead(counting)
	wantRead(api.Plan{})
	wantRead(planOf(slices.Repeat([]int64{greatest}, 16)))
	r := rand.New(rand.NewSource(84))
	for range 3000 {
		wantRead(randomPlan(r))
	}
}

// Of a number below 0, or of more digits, it is not.
func TestWhatIsShownOfOtherNumbersIsNotRead(t *testing.T) {
	for i, f := range fields() {
		for _, n := range []int64{math.MinInt64, -greatest, -1, greatest + 1, math.MaxInt64} {
			p := four
			f.set(&p, n)
			wantNoPlan(t, plantext.Show(p), i+1)
		}
	}
}

func TestLinesInAnyOrder(t *testing.T) {
	r := rand.New(rand.NewSource(85))
	for range 3000 {
		p := randomPlan(r)
		lines := linesOf(plantext.Show(p))
		r.Shuffle(len(lines), func(a, b int) { lines[a], lines[b] = lines[b], lines[a] })
		wantPlan(t, strings.Join(lines, "\n"), p)
		wantPlan(t, mixed(r, p), p)
	}
	back := linesOf(fourShown)
	slices.Reverse(back)
	wantPlan(t, strings.Join(back, "\n"), four)
	for turn := range 16 {
		lines := linesOf(fourShown)
		wantPlan(t, strings.Join(append(lines[turn:], lines[:turn]...), "\n# and\n\n \t"), four)
	}
}

func FuzzParse(f *testing.F) {
	f.Add(fourShown)
	f.Add("nodes = 4 # four\n\nnodes=5")
	f.Fuzz(func(t *testing.T, text string) { wantByTheWords(t, text) })
}
