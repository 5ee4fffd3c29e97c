package delay

import (
	"math"
	"math/rand/v2"
	"testing"

	"sacristan/api"
)

const (
	limit = 8       // MaxLimit, as DOC.md has it
	tick  = 1 << 40 // MaxTick, as DOC.md has it
	turns = 41      // so many starts double 1 up to MaxTick: one without doubling, and 40
)

// edges are the least and the greatest numbers, 0, the ends of what is valid, what is just outside of these, and numbers that are equal to 1 if some of their bits are lost.
var edges = []int{
	math.MinInt, math.MinInt + 1, -tick - 1, -tick, -tick + 1, -1 << 32, -limit, -2, -1, 0, 1, 2, 3, 4, limit - 1, limit, limit + 1,
	1 + 1<<8, 1 + 1<<16, 1<<31 - 1, 1 << 31, 1 + 1<<32, tick / 2, tick - 1, tick, tick + 1, 2 * tick, 1 + 1<<48, math.MaxInt - 1, math.MaxInt,
}

// The reference does without doubling: it asks how many starts fit into Most at once.

func wantCheck(p api.Policy) api.Errno {
	for _, row := range [][2]int{{p.Limit, limit}, {p.Window, tick}, {p.Most, tick}, {p.Base, p.Most}} {
		if row[0] < 1 || row[0] > row[1] {
			return api.ErrRange
		}
	}
	return api.OK
}

func wantAfter(p api.Policy, n int) (int, api.Errno) {
	if wantCheck(p) != api.OK || n < 0 {
		return 0, api.ErrRange
	}
	times := max(n-1, 0)
	// A number that is moved by as many bits as it has, or by more, is 0.
	if p.Base > p.Most>>times {
		return p.Most, api.OK
	}
	return p.Base << times, api.OK
}

// The samples.

// ordinary is the policy of the chapter's examples.
var ordinary = api.Policy{Limit: 2, Window: 20, Base: 2, Most: 9}

// span is a policy with this Base and this Most.
func span(base, most int) api.Policy {
	return api.Policy{Limit: 3, Window: 100, Base: base, Most: most}
}

// counts are numbers of starts: few ones, those about which 1 reaches MaxTick, those about which an int has no more bits, and great ones.
func counts() []int {
	var all []int
	for n := range 140 {
		all = append(all, n)
	}
	return append(all, 255, 256, 257, 1000, 1<<16, 1<<16+1, 1<<31, 1<<32, 1<<32+1, 1<<32+2, tick, tick+1, 1<<48+2, math.MaxInt-64, math.MaxInt-1, math.MaxInt)
}

// spans returns valid policies of every kind of Base and Most: small ones, powers of two and what is beside them, and random ones.
func spans() []api.Policy {
	var all []api.Policy
	for most := 1; most <= 40; most++ {
		for base := 1; base <= most; base++ {
			all = append(all, span(base, most))
		}
	}
	var numbers []int
	for bit := 0; bit <= 40; bit += 4 {
		for n := 1<<bit - 1; n <= 1<<bit+1; n++ {
			if n >= 1 && n <= tick {
				numbers = append(numbers, n)
			}
		}
	}
	numbers = append(numbers, 5, 1000, tick/3, tick/3+1, tick/2-1, tick/2, tick/2+1)
	for _, base := range numbers {
		for _, most := range numbers {
			if base <= most {
				all = append(all, span(base, most))
			}
		}
	}
	g := generator()
	for range 300 {
		most := 1 + g.IntN(1<<(1+g.IntN(40)))
		base := 1 + g.IntN(max(1, most>>g.IntN(40)))
		all = append(all, span(base, most))
	}
	return all
}

func generator() *rand.Rand {
	return rand.New(rand.NewPCG(11, 1))
}

// eachDelay calls f with every policy of spans and every number of counts.
func eachDelay(f func(p api.Policy, n int)) {
	numbers := counts()
	for _, p := range spans() {
		for _, n := range numbers {
			f(p, n)
		}
	}
}

// delay returns After, which has to have no error.
func delay(t *testing.T, p api.Policy, n int) int {
	t.Helper()
	got, e := After(p, n)
	if e != api.OK {
		t.Fatalf("After(%+v, %d) has the error %v", p, n, e)
	}
	return got
}

func expectCheck(t *testing.T, want api.Errno, p api.Policy) {
	t.Helper()
	for _, always := range []bool{p.Always, !p.Always} {
		p.Always = always
		if got := Check(p); got != want {
			t.Errorf("Check(%+v) = %v, want %v", p, got, want)
		}
	}
}

func expectAfter(t *testing.T, want int, wantError api.Errno, p api.Policy, n int) {
	t.Helper()
	if got, e := After(p, n); got != want || e != wantError {
		t.Errorf("After(%+v, %d) = %d, %v, want %d, %v", p, n, got, e, want, wantError)
	}
}

// expectDelays compares After of 0, 1, 2 and more starts with a list.
func expectDelays(t *testing.T, p api.Policy, want ...int) {
	t.Helper()
	for n, delay := range want {
		expectAfter(t, delay, api.OK, p, n)
	}
}

// The promises.

func TestExamples(t *testing.T) { // P11.1, P11.2
	for n, want := range map[int]int{0: 2, 1: 2, 2: 4, 3: 8, 4: 9, 1000: 9} {
		expectAfter(t, want, api.OK, ordinary, n)
	}
	expectAfter(t, 0, api.ErrRange, ordinary, -1)
	wide := ordinary
	wide.Base = 10
	expectAfter(t, 0, api.ErrRange, wide, 1)
	often := ordinary
	often.Limit = 9
	expectCheck(t, api.ErrRange, often)
	expectCheck(t, api.OK, ordinary)
}

func TestExampleOfTheWhole(t *testing.T) { // P11.2, DOC.md's example 4
	expectDelays(t, api.Policy{Limit: 2, Window: 20, Base: 2, Most: 8}, 2, 2, 4, 8, 8, 8)
}

func TestCheckOfLimit(t *testing.T) { // P11.1
	for n := -300; n <= 300; n++ {
		expectLimit(t, n)
	}
	for _, n := range edges {
		expectLimit(t, n)
	}
}

func expectLimit(t *testing.T, n int) {
	t.Helper()
	want := api.ErrRange
	if n >= 1 && n <= 8 {
		want = api.OK
	}
	for _, p := range []api.Policy{ordinary, span(1, 1), span(1, tick), span(tick, tick)} {
		p.Limit = n
		expectCheck(t, want, p)
	}
}

func TestCheckOfWindow(t *testing.T) { // P11.1
	for n, want := range map[int]api.Errno{
		1: api.OK, 2: api.OK, 8: api.OK, 9: api.OK, 20: api.OK, 1 << 31: api.OK, 1 << 32: api.OK, 1<<40 - 1: api.OK, 1 << 40: api.OK,
		0: api.ErrRange, -1: api.ErrRange, -2: api.ErrRange, -20: api.ErrRange, -1 << 32: api.ErrRange, -1 << 40: api.ErrRange,
		1<<40 + 1: api.ErrRange, 1 << 41: api.ErrRange, 20 + 1<<48: api.ErrRange,
		math.MinInt: api.ErrRange, math.MinInt + 20: api.ErrRange, math.MaxInt: api.ErrRange,
	} {
		for _, p := range []api.Policy{ordinary, span(1, 1), span(1, tick), span(tick, tick)} { // less than Base and Most, and more
			p.Window = n
			expectCheck(t, want, p)
		}
	}
}

func TestCheckOfMost(t *testing.T) { // P11.1
	for n, want := range map[int]api.Errno{
		1: api.OK, 2: api.OK, 9: api.OK, 20: api.OK, 21: api.OK, 1 << 32: api.OK, 1<<40 - 1: api.OK, 1 << 40: api.OK,
		0: api.ErrRange, -1: api.ErrRange, -9: api.ErrRange, -1 << 40: api.ErrRange,
		1<<40 + 1: api.ErrRange, 1 << 41: api.ErrRange, 9 + 1<<48: api.ErrRange,
		math.MinInt: api.ErrRange, math.MinInt + 9: api.ErrRange, math.MaxInt - 1: api.ErrRange, math.MaxInt: api.ErrRange,
	} {
		p := ordinary
		p.Base, p.Most = 1, n
		expectCheck(t, want, p)
		p.Base = n // as great as Most
		expectCheck(t, want, p)
	}
}

func TestCheckOfBase(t *testing.T) { // P11.1
	for _, most := range []int{1, 2, 3, 8, 9, 20, 21, 1 << 16, 1 << 32, tick - 1, tick} {
		for _, base := range []int{1, most/2 + 1, max(1, most-1), most} {
			expectCheck(t, api.OK, span(base, most))
		}
		for _, base := range []int{
			math.MinInt, math.MinInt + 1, math.MinInt + most, -1 << 32, -most - 1, -most, -2, -1, 0,
			most + 1, most + 2, 2*most + 1, tick + 1, 1 + 1<<48, math.MaxInt - 1, math.MaxInt,
		} {
			expectCheck(t, api.ErrRange, span(base, most))
		}
	}
}

func TestCheckIsTheDefinition(t *testing.T) { // P11.1: several fields together
	valid, other := 0, 0
	for _, limit := range []int{math.MinInt, -1, 0, 1, 8, 9, math.MaxInt} {
		for _, window := range []int{math.MinInt, -1, 0, 1, tick, tick + 1, math.MaxInt} {
			for _, base := range edges {
				for _, most := range edges {
					p := api.Policy{Limit: limit, Window: window, Base: base, Most: most}
					expectCheck(t, wantCheck(p), p)
					if wantCheck(p) == api.OK {
						valid++
					} else {
						other++
					}
				}
			}
		}
	}
	if valid < 300 || other < 10000 {
		t.Errorf("%d policies are valid, %d are not: badly chosen", valid, other)
	}
	expectCheck(t, api.ErrRange, api.Policy{})
}

func TestAfterOfPoliciesThatAreNotValid(t *testing.T) { // P11.2, R1
	for _, n := range []int{math.MinInt, -1, 0, 1, 2, 3, 64, math.MaxInt} {
		for _, x := range edges {
			for _, p := range []api.Policy{
				{Limit: x, Window: 20, Base: 2, Most: 9}, {Limit: 2, Window: x, Base: 2, Most: 9},
				{Limit: 2, Window: 20, Base: x, Most: 9}, {Limit: 2, Window: 20, Base: 2, Most: x},
				{Limit: 2, Window: 20, Base: x, Most: x}, {Limit: 2, Window: 20, Base: x, Most: tick},
				{Limit: x, Window: x, Base: 2, Most: 9}, {Limit: x, Window: x, Base: x, Most: x},
			} {
				want, e := wantAfter(p, n)
				expectAfter(t, want, e, p, n)
				p.Always = true
				expectAfter(t, want, e, p, n)
			}
		}
	}
	for _, p := range []api.Policy{
		{}, {Always: true}, {Limit: 0, Window: 20, Base: 2, Most: 9}, {Limit: 9, Window: 20, Base: 2, Most: 9},
		{Limit: 2, Window: 0, Base: 2, Most: 9}, {Limit: 2, Window: tick + 1, Base: 2, Most: 9},
		{Limit: 2, Window: 20, Base: 0, Most: 9}, {Limit: 2, Window: 20, Base: 10, Most: 9},
		{Limit: 2, Window: 20, Base: 2, Most: 0}, {Limit: 2, Window: 20, Base: 2, Most: tick + 1},
		{Limit: 2, Window: 20, Base: -4, Most: -2}, {Limit: 2, Window: 20, Base: math.MinInt, Most: math.MaxInt},
	} {
		for _, n := range []int{math.MinInt, -1, 0, 1, 2, 3, 64, math.MaxInt} {
			expectAfter(t, 0, api.ErrRange, p, n)
		}
	}
}

func TestAfterOfNegativeNumbers(t *testing.T) { // P11.2, R1
	for _, p := range []api.Policy{ordinary, span(1, 1), span(1, tick), span(tick, tick), span(7, 7)} {
		for n := -140; n < 0; n++ {
			expectAfter(t, 0, api.ErrRange, p, n)
		}
		for _, n := range []int{
			math.MinInt, math.MinInt + 1, math.MinInt + 2, math.MinInt + 3, -tick - 1, -tick, -1 << 48, -1<<32 + 2, -1 << 32, -1<<31 - 1, -1 << 31, -1 << 16, -1 << 8,
		} {
			expectAfter(t, 0, api.ErrRange, p, n)
		}
	}
}

func TestAfterOfFewStarts(t *testing.T) { // P11.2: 0, 1 and 2 of them
	for _, p := range spans() {
		expectAfter(t, p.Base, api.OK, p, 0)
		expectAfter(t, p.Base, api.OK, p, 1)
		expectAfter(t, min(p.Base+p.Base, p.Most), api.OK, p, 2)
	}
}

func TestAfterReachesMostExactly(t *testing.T) { // P11.2
	expectDelays(t, span(3, 24), 3, 3, 6, 12, 24, 24, 24, 24)
	expectDelays(t, span(1, 2), 1, 1, 2, 2, 2)
	expectDelays(t, span(tick/4, tick), tick/4, tick/4, tick/2, tick, tick, tick)
	expectDelays(t, span(5<<20, 5<<23), 5<<20, 5<<20, 5<<21, 5<<22, 5<<23, 5<<23)
}

func TestAfterWouldPassBeyondMost(t *testing.T) { // P11.2
	expectDelays(t, span(3, 23), 3, 3, 6, 12, 23, 23, 23)
	expectDelays(t, span(3, 25), 3, 3, 6, 12, 24, 25, 25, 25)
	expectDelays(t, span(3, 5), 3, 3, 5, 5, 5)
	expectDelays(t, span(1, 3), 1, 1, 2, 3, 3, 3)
	expectDelays(t, span(tick-1, tick), tick-1, tick-1, tick, tick)
	expectDelays(t, span(tick/2-1, tick), tick/2-1, tick/2-1, tick-2, tick, tick)
	expectDelays(t, span(tick/2+1, tick), tick/2+1, tick/2+1, tick, tick)
}

func TestAfterOfBaseThatIsMost(t *testing.T) { // P11.2: there is nothing to double
	for _, most := range []int{1, 2, 3, 9, 1 << 32, tick - 1, tick} {
		for _, n := range counts() {
			expectAfter(t, most, api.OK, span(most, most), n)
		}
	}
}

func TestAfterOfTheWidestPolicy(t *testing.T) { // P11.2: each number of starts up to where Most is reached, and beyond
	p, want := span(1, tick), 1
	expectAfter(t, 1, api.OK, p, 0)
	for n := 1; n < turns; n++ {
		expectAfter(t, want, api.OK, p, n)
		want += want
	}
	for n := turns; n < 1000; n++ {
		expectAfter(t, 1<<40, api.OK, p, n)
	}
	p.Most--
	expectAfter(t, 1<<39, api.OK, p, turns-1)
	expectAfter(t, 1<<40-1, api.OK, p, turns)
}

func TestAfterOfManyStarts(t *testing.T) { // P11.2, R1: it ends, however many there were
	for _, p := range []api.Policy{ordinary, span(1, 1), span(1, 2), span(1, tick), span(1, tick-1), span(3, tick), span(tick, tick)} {
		for _, n := range []int{64, 65, 66, 127, 128, 129, 256, 257, 258, 1 << 16, 1<<16 + 1, 1 << 31, 1 << 32, 1<<32 + 1, 1<<32 + 2, tick, 1 << 62, math.MaxInt - 1, math.MaxInt} {
			expectAfter(t, p.Most, api.OK, p, n)
		}
	}
}

func TestAfterIsTheDefinition(t *testing.T) { // P11.2
	least, between, most := 0, 0, 0
	eachDelay(func(p api.Policy, n int) {
		want, e := wantAfter(p, n)
		expectAfter(t, want, e, p, n)
		switch want {
		case p.Most:
			most++
		case p.Base:
			least++
		default:
			between++
		}
	})
	if least < 1000 || between < 1000 || most < 1000 {
		t.Errorf("%d delays are Base, %d are Most, %d are between: badly chosen", least, most, between)
	}
}

func TestDelaysFromBaseToMost(t *testing.T) { // P11.3
	eachDelay(func(p api.Policy, n int) {
		if got := delay(t, p, n); got < p.Base || got > p.Most {
			t.Fatalf("After(%+v, %d) = %d", p, n, got)
		}
	})
}

func TestDelaysDoNotFall(t *testing.T) { // P11.3: and are at most twice the one before
	exact, cut := 0, 0
	eachDelay(func(p api.Policy, n int) {
		if n == math.MaxInt {
			return
		}
		got, next := delay(t, p, n), delay(t, p, n+1)
		switch {
		case next < got:
			t.Fatalf("of %+v: %d after %d starts, but %d after one more", p, got, n, next)
		case next > 2*got:
			t.Fatalf("of %+v: %d after %d starts, but %d after one more, which is more than twice", p, got, n, next)
		case n == 0 && next != got:
			t.Fatalf("of %+v: %d after no start, but %d after one", p, got, next)
		case n > 0 && next < p.Most && next != 2*got:
			t.Fatalf("of %+v: %d after %d starts, but %d after one more, which is not twice", p, got, n, next)
		case n > 0 && next < p.Most:
			exact++
		default:
			cut++
		}
	})
	if exact < 1000 || cut < 1000 {
		t.Errorf("%d delays are twice the one before, %d need not be: badly chosen", exact, cut)
	}
}

func TestDelaysOfOtherFields(t *testing.T) { // P11.4
	numbers := []int{0, 1, 2, 3, 4, 5, 17, 40, 41, 64, 1000, math.MaxInt}
	for i, p := range spans() {
		if i%5 != 0 {
			continue
		}
		for _, n := range numbers {
			want := delay(t, p, n)
			for limit := 1; limit <= 8; limit++ {
				for _, window := range []int{1, 2, p.Base, p.Most, 1 << 32, tick} {
					for _, always := range []bool{false, true} {
						expectAfter(t, want, api.OK, api.Policy{Always: always, Limit: limit, Window: window, Base: p.Base, Most: p.Most}, n)
					}
				}
			}
		}
	}
}

func TestDelaysOfGreaterBase(t *testing.T) { // P11.5
	eachDelay(func(p api.Policy, n int) {
		before := delay(t, p, n)
		for _, base := range []int{p.Base + 1, 2*p.Base - 1, 2 * p.Base, 2*p.Base + 1, p.Most - 1, p.Most} {
			if base < p.Base || base > p.Most {
				continue
			}
			if got := delay(t, span(base, p.Most), n); got < before {
				t.Fatalf("After(%+v, %d) = %d, but %d with the Base %d", p, n, before, got, base)
			}
		}
	})
}

func TestDelaysOfGreaterMost(t *testing.T) { // P11.5
	eachDelay(func(p api.Policy, n int) {
		before := delay(t, p, n)
		for _, most := range []int{p.Most + 1, p.Most + 2, 2*p.Most - 1, 2 * p.Most, 2*p.Most + 1, tick - 1, tick} {
			if most < p.Most || most > tick {
				continue
			}
			if got := delay(t, span(p.Base, most), n); got < before {
				t.Fatalf("After(%+v, %d) = %d, but %d with the Most %d", p, n, before, got, most)
			}
		}
	})
}

func TestDelaysOfGreaterBaseAndMost(t *testing.T) { // P11.5
	g := generator()
	all := spans()
	for range 200000 {
		a, b, n := all[g.IntN(len(all))], all[g.IntN(len(all))], g.IntN(50)
		if a.Base > b.Base || a.Most > b.Most {
			continue
		}
		if less, more := delay(t, a, n), delay(t, b, n); less > more {
			t.Fatalf("After(%+v, %d) = %d, After(%+v, %d) = %d", a, n, less, b, n, more)
		}
	}
}

func TestDelaysOfDoubledPolicies(t *testing.T) { // P11.5
	compared := 0
	eachDelay(func(p api.Policy, n int) {
		if 2*p.Most > tick {
			return
		}
		compared++
		once := delay(t, p, n)
		if got := delay(t, span(2*p.Base, 2*p.Most), n); got != 2*once {
			t.Fatalf("After(%+v, %d) = %d, but %d with both doubled", p, n, once, got)
		}
	})
	if compared < 10000 {
		t.Errorf("%d policies can be doubled: badly chosen", compared)
	}
}

func TestCallsKeepNothing(t *testing.T) { // R6
	for range 3 {
		expectAfter(t, 8, api.OK, ordinary, 3)
		expectAfter(t, tick, api.OK, span(1, tick), 1000)
		expectAfter(t, 0, api.ErrRange, span(10, 9), 3)
		expectAfter(t, 2, api.OK, ordinary, 0)
		expectCheck(t, api.ErrRange, api.Policy{})
		expectAfter(t, 0, api.ErrRange, ordinary, -1)
		expectCheck(t, api.OK, ordinary)
	}
}
