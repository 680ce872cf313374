package plantext_test

import (
	"fmt"
	"math/big"
	"regexp"
	"strings"

	"vespers/api"
)

// The chapter's words once more, by other means than the package has: a line's
// form is a regular expression, and a plan's numbers are of any size.

// inOrder are the names as the chapter has them.
const inOrder = "nodes, k, slot, sendoff, window, air, dmin, dmax, rho, pi, cap, delta, queue, burst, payload, horizon"

func names() []string { return strings.Split(inOrder, ", ") }

var (
	remark  = regexp.MustCompile(`(?s)#.*`)
	nothing = regexp.MustCompile(`^[ \t]*$`)
	form    = regexp.MustCompile(`^[ \t]*(` + strings.ReplaceAll(inOrder, ", ", "|") + `)[ \t]*=[ \t]*(0|[1-9][0-9]{0,14})[ \t]*$`)
)

// field is where a plan has a number, and how it is set.
type field struct {
	name string
	get  func(p api.Plan) int64
	set  func(p *api.Plan, n int64)
}

func whole(name string, at func(p *api.Plan) *int) field {
	return field{name, func(p api.Plan) int64 { return int64(*at(&p)) }, func(p *api.Plan, n int64) { *at(p) = int(n) }}
}

func long(name string, at func(p *api.Plan) *int64) field {
	return field{name, func(p api.Plan) int64 { return *at(&p) }, func(p *api.Plan, n int64) { *at(p) = n }}
}

func fields() []field {
	return []field{
		whole("nodes", func(p *api.Plan) *int { return &p.Nodes }),
		whole("k", func(p *api.Plan) *int { return &p.K }),
		long("slot", func(p *api.Plan) *int64 { return &p.Slot }),
		long("sendoff", func(p *api.Plan) *int64 { return &p.SendOff }),
		long("window", func(p *api.Plan) *int64 { return &p.Window }),
		long("air", func(p *api.Plan) *int64 { return &p.Air }),
		long("dmin", func(p *api.Plan) *int64 { return &p.Dmin }),
		long("dmax", func(p *api.Plan) *int64 { return &p.Dmax }),
		long("rho", func(p *api.Plan) *int64 { return &p.Rho }),
		long("pi", func(p *api.Plan) *int64 { return &p.Pi }),
		long("cap", func(p *api.Plan) *int64 { return &p.Cap }),
		long("delta", func(p *api.Plan) *int64 { return &p.Delta }),
		whole("queue", func(p *api.Plan) *int { return &p.Queue }),
		whole("burst", func(p *api.Plan) *int { return &p.Burst }),
		whole("payload", func(p *api.Plan) *int { return &p.Payload }),
		long("horizon", func(p *api.Plan) *int64 { return &p.Horizon }),
	}
}

// planOf is the plan of these numbers, in the order of the names.
func planOf(numbers []int64) api.Plan {
	var p api.Plan
	for i, f := range fields() {
		f.set(&p, numbers[i])
	}
	return p
}

// shown is what is shown of a plan.
func shown(p api.Plan) string {
	var b strings.Builder
	for _, f := range fields() {
		fmt.Fprintf(&b, "%s = %d\n", f.name, big.NewInt(f.get(p)))
	}
	return b.String()
}

// wrongLine is the first line that has not the form, or says a name again; 0,
// if there is none: then these are the names that are said, and their numbers.
func wrongLine(text string) (line int, said map[string]int64) {
	said = map[string]int64{}
	for i, one := range strings.Split(text, "\n") {
		one = remark.ReplaceAllString(one, "")
		if nothing.MatchString(one) {
			continue
		}
		parts := form.FindStringSubmatch(one)
		if parts == nil {
			return i + 1, nil
		}
		if _, is := said[parts[1]]; is {
			return i + 1, nil
		}
		n, _ := new(big.Int).SetString(parts[2], 10)
		said[parts[1]] = n.Int64()
	}
	return 0, said
}

// parsed is what a text says by the words.
func parsed(text string) (api.Plan, int, api.Errno) {
	if len(text) > 4000 {
		return api.Plan{}, 0, 80
	}
	line, said := wrongLine(text)
	if line != 0 {
		return api.Plan{}, line, 80
	}
	var p api.Plan
	for _, f := range fields() {
		n, is := said[f.name]
		if !is {
			return api.Plan{}, 0, 80
		}
		f.set(&p, n)
	}
	return p, 0, 0
}
