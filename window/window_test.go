package window

import (
	"math"
	"math/rand/v2"
	"slices"
	"testing"

	"sacristan/api"
)

const maxTick = 1 << 40 // MaxTick, as DOC.md has it

// edges are the least and the greatest numbers, 0, the ends of what is a tick, what is just outside of these, and numbers that are equal to 5 if some of their bits are lost.
var edges = []int{
	math.MinInt, math.MinInt + 1, math.MinInt + 5, -1 << 48, -maxTick - 1, -maxTick, -maxTick + 1, -1 << 32, -5, -2, -1, 0, 1, 2, 4, 5, 6,
	5 + 1<<8, 5 + 1<<16, 1<<31 - 1, 1 << 31, 5 + 1<<32, maxTick - 5, maxTick - 1, maxTick, maxTick + 1, maxTick + 5, 2 * maxTick, 5 + 1<<48, math.MaxInt - 1, math.MaxInt,
}

// wrong are those of the edges that are no ticks.
var wrong = []int{
	math.MinInt, math.MinInt + 1, math.MinInt + 5, -1 << 48, -maxTick - 1, -maxTick, -maxTick + 1, -1 << 32, -5, -2, -1,
	maxTick + 1, maxTick + 5, 2 * maxTick, 5 + 1<<48, math.MaxInt - 1, math.MaxInt,
}

// The reference asks of each start, by itself, what the definitions say.

func wantError(starts []int, window int) api.Errno {
	if window < 1 || window > maxTick {
		return api.ErrRange
	}
	for i, s := range starts {
		if s < 0 || s > maxTick {
			return api.ErrRange
		}
		if i > 0 && starts[i-1] > s {
			return api.ErrOrder
		}
	}
	return api.OK
}

func wantTickError(starts []int, window, tick int) api.Errno {
	if e := wantError(starts, window); e != api.OK {
		return e
	}
	if tick < 0 || tick > maxTick {
		return api.ErrRange
	}
	return api.OK
}

func wantCount(starts []int, window, tick int) (int, api.Errno) {
	if e := wantTickError(starts, window, tick); e != api.OK {
		return 0, e
	}
	n := 0
	for _, s := range starts {
		if tick-window < s && s <= tick {
			n++
		}
	}
	return n, api.OK
}

func wantKeep(starts []int, window, tick int) ([]int, api.Errno) {
	if e := wantTickError(starts, window, tick); e != api.OK {
		return nil, e
	}
	var want []int
	for i, s := range starts {
		if s > tick-window || i == len(starts)-1 {
			want = append(want, s)
		}
	}
	return want, api.OK
}

func wantWithin(starts []int, window, limit int) (bool, api.Errno) {
	if e := wantError(starts, window); e != api.OK {
		return false, e
	}
	if limit < 0 {
		return false, api.ErrRange
	}
	for _, s := range starts {
		if n, _ := wantCount(starts, window, s); n > limit {
			return false, api.OK
		}
	}
	return true, api.OK
}

// The samples.

// rising returns all lists of at most n ticks from 0 to top, each at least as great as the one before; the empty one first.
func rising(n, top int) [][]int {
	all := [][]int{nil}
	for i := 0; i < len(all) && len(all[i]) < n; i++ {
		least := 0
		if len(all[i]) > 0 {
			least = slices.Max(all[i])
		}
		for s := least; s <= top; s++ {
			all = append(all, append(slices.Clone(all[i]), s))
		}
	}
	return all
}

// lists returns all lists of at most n elements that are among the values, the empty one first.
func lists(n int, values ...int) [][]int {
	all := [][]int{nil}
	for i := 0; i < len(all) && len(all[i]) < n; i++ {
		for _, x := range values {
			all = append(all, append(slices.Clone(all[i]), x))
		}
	}
	return all
}

func generator() *rand.Rand {
	return rand.New(rand.NewPCG(12, 1))
}

// sample is starts with the window and the tick of an interval.
type sample struct {
	starts       []int
	window, tick int
}

// random returns a sample of up to 20 starts, near 0, near MaxTick or between, that are often equal, and a window and a tick that fit them.
func random(g *rand.Rand) sample {
	wide := 1 << g.IntN(41)
	from := []int{0, maxTick - wide, g.IntN(maxTick - wide + 1)}[g.IntN(3)]
	starts := make([]int, g.IntN(21))
	for i := range starts {
		starts[i] = from + g.IntN(wide+1)
		if i > 0 && g.IntN(3) == 0 {
			starts[i] = starts[g.IntN(i)]
		}
	}
	slices.Sort(starts)
	s := sample{starts, 1 + g.IntN(wide), from + g.IntN(wide+1)}
	switch g.IntN(8) {
	case 0:
		s.window = maxTick - g.IntN(3)
	case 1:
		s.tick = g.IntN(maxTick + 1)
	case 2, 3:
		if len(starts) > 0 { // a start is at an edge of the interval, or beside it
			s.tick = starts[g.IntN(len(starts))] + []int{0, s.window}[g.IntN(2)] + g.IntN(3) - 1
			s.tick = min(max(s.tick, 0), maxTick)
		}
	}
	return s
}

// each calls f with samples: all short ones of small numbers, and random ones.
func each(f func(s sample)) {
	for _, starts := range rising(4, 5) {
		for window := 1; window <= 8; window++ {
			for tick := 0; tick <= 14; tick++ {
				f(sample{starts, window, tick})
			}
		}
	}
	for _, starts := range [][]int{{}, {0}, {maxTick}, {0, 0}, {maxTick, maxTick}, {0, maxTick}, {0, 1, maxTick - 1, maxTick}, {5, 5, 5, 5, 5, 5, 5, 5, 5, 5}} {
		for _, window := range []int{1, 2, maxTick / 2, maxTick - 1, maxTick} {
			for _, tick := range []int{0, 1, 5, maxTick / 2, maxTick - 1, maxTick} {
				f(sample{starts, window, tick})
			}
		}
	}
	g := generator()
	for range 30000 {
		f(random(g))
	}
}

// count returns Count, which has to have no error.
func count(t *testing.T, starts []int, window, tick int) int {
	t.Helper()
	n, e := Count(starts, window, tick)
	if e != api.OK {
		t.Fatalf("Count(%v; %d, %d) has the error %v", starts, window, tick, e)
	}
	return n
}

// keep returns Keep, which has to have no error.
func keep(t *testing.T, starts []int, window, tick int) []int {
	t.Helper()
	kept, e := Keep(starts, window, tick)
	if e != api.OK {
		t.Fatalf("Keep(%v; %d, %d) has the error %v", starts, window, tick, e)
	}
	return kept
}

// within returns Within, which has to have no error.
func within(t *testing.T, starts []int, window, limit int) bool {
	t.Helper()
	ok, e := Within(starts, window, limit)
	if e != api.OK {
		t.Fatalf("Within(%v; %d, %d) has the error %v", starts, window, limit, e)
	}
	return ok
}

func expectCount(t *testing.T, want int, wantError api.Errno, starts []int, window, tick int) {
	t.Helper()
	if n, e := Count(starts, window, tick); n != want || e != wantError {
		t.Errorf("Count(%v; %d, %d) = %d, %v, want %d, %v", starts, window, tick, n, e, want, wantError)
	}
}

func expectKeep(t *testing.T, want []int, wantError api.Errno, starts []int, window, tick int) {
	t.Helper()
	if kept, e := Keep(starts, window, tick); !slices.Equal(kept, want) || e != wantError {
		t.Errorf("Keep(%v; %d, %d) = %v, %v, want %v, %v", starts, window, tick, kept, e, want, wantError)
	}
}

func expectWithin(t *testing.T, want bool, wantError api.Errno, starts []int, window, limit int) {
	t.Helper()
	if ok, e := Within(starts, window, limit); ok != want || e != wantError {
		t.Errorf("Within(%v; %d, %d) = %v, %v, want %v, %v", starts, window, limit, ok, e, want, wantError)
	}
}

// expectDefinition compares Count and Keep with the reference, and Within, with the number in place of the tick.
func expectDefinition(t *testing.T, starts []int, window, number int) {
	t.Helper()
	n, e := wantCount(starts, window, number)
	expectCount(t, n, e, starts, window, number)
	kept, e := wantKeep(starts, window, number)
	expectKeep(t, kept, e, starts, window, number)
	ok, e := wantWithin(starts, window, number)
	expectWithin(t, ok, e, starts, window, number)
}

// expectError says that all functions have this error.
func expectError(t *testing.T, want api.Errno, starts []int, window, number int) {
	t.Helper()
	expectCount(t, 0, want, starts, window, number)
	expectKeep(t, nil, want, starts, window, number)
	expectWithin(t, false, want, starts, window, number)
}

// The promises.

func TestExamples(t *testing.T) { // P12.1, P12.2, P12.3
	expectCount(t, 3, api.OK, []int{1, 5, 5, 9}, 5, 9)
	expectCount(t, 1, api.OK, []int{1, 5, 5, 9}, 4, 9)
	expectCount(t, 1, api.OK, []int{1, 5}, 100, 3)
	expectKeep(t, []int{9}, api.OK, []int{1, 5, 9}, 4, 9)
	expectKeep(t, []int{5}, api.OK, []int{1, 5}, 2, 50)
	expectKeep(t, nil, api.OK, nil, 2, 50)
	expectWithin(t, true, api.OK, []int{1, 5, 9}, 4, 1)
	expectWithin(t, false, api.OK, []int{1, 5, 9}, 5, 1)
	expectWithin(t, true, api.OK, nil, 5, 0)
	expectCount(t, 0, api.ErrOrder, []int{5, 1}, 2, 9)
	expectCount(t, 0, api.ErrRange, []int{1}, 0, 9)
	expectCount(t, 0, api.ErrRange, []int{1}, 2, -1)
}

func TestExampleOfTheWhole(t *testing.T) { // P12.1, DOC.md's example 4
	expectCount(t, 1, api.OK, []int{0}, 20, 1)
}

func TestWindows(t *testing.T) { // P12.1, P12.2, P12.3
	for _, starts := range [][]int{nil, {}, {0}, {5}, {maxTick}, {5, 5}, {0, 5, maxTick}} {
		for _, number := range []int{0, 1, 5, maxTick - 1, maxTick} {
			for _, window := range []int{
				math.MinInt, math.MinInt + 1, math.MinInt + 5, -1 << 48, -maxTick - 1, -maxTick, -1 << 32, -5, -1, 0,
				maxTick + 1, maxTick + 5, 2 * maxTick, 5 + 1<<48, math.MaxInt - 1, math.MaxInt,
			} {
				expectError(t, api.ErrRange, starts, window, number)
			}
			for _, window := range []int{1, 2, 5, 1 << 31, 1 << 32, 5 + 1<<32, maxTick - 1, maxTick} {
				count(t, starts, window, number)
				keep(t, starts, window, number)
				within(t, starts, window, number)
				expectDefinition(t, starts, window, number)
			}
		}
	}
}

func TestTicks(t *testing.T) { // P12.1, P12.2
	for _, starts := range [][]int{nil, {}, {0}, {5}, {maxTick}, {5, 5}, {0, 5, maxTick}} {
		for _, window := range []int{1, 5, maxTick - 1, maxTick} {
			for _, tick := range wrong {
				expectCount(t, 0, api.ErrRange, starts, window, tick)
				expectKeep(t, nil, api.ErrRange, starts, window, tick)
			}
			for _, tick := range []int{0, 1, 5, 6, 1 << 31, 1 << 32, 5 + 1<<32, maxTick - 1, maxTick} {
				count(t, starts, window, tick)
				keep(t, starts, window, tick)
				expectDefinition(t, starts, window, tick)
			}
		}
	}
}

func TestLimits(t *testing.T) { // P12.3
	for _, starts := range [][]int{nil, {}, {0}, {5}, {maxTick}, {5, 5}, {0, 5, maxTick}} {
		for _, window := range []int{1, 5, maxTick - 1, maxTick} {
			for _, limit := range []int{math.MinInt, math.MinInt + 1, math.MinInt + 5, -1 << 48, -maxTick, -1 << 32, -1<<32 + 1, -3, -2, -1} {
				expectWithin(t, false, api.ErrRange, starts, window, limit)
			}
			for _, limit := range []int{3, 4, 8, 9, 1 << 8, 1 << 16, 1 << 31, 1 << 32, maxTick, maxTick + 1, 1 << 48, math.MaxInt - 1, math.MaxInt} {
				expectWithin(t, true, api.OK, starts, window, limit)
			}
			expectWithin(t, len(starts) == 0, api.OK, starts, window, 0)
		}
	}
}

func TestStartsOutOfRange(t *testing.T) { // P12.1, P12.2, P12.3: the only one, the first, in the middle, the last
	for _, s := range wrong {
		for _, starts := range [][]int{{s}, {s, 5, maxTick}, {0, s, maxTick}, {5, s, 5}, {0, 5, s}, {s, s}, {maxTick, s}, {s, 0, 0, 0, 0, 0, 0, 0, 0}} {
			for _, window := range []int{1, 5, maxTick} {
				for _, number := range []int{0, 5, maxTick} {
					expectError(t, api.ErrRange, starts, window, number)
				}
			}
		}
	}
}

func TestStartsInRange(t *testing.T) { // P12.1, P12.2, P12.3
	for _, starts := range [][]int{{0}, {maxTick}, {0, 5, maxTick}, {0, 0, maxTick, maxTick}, {0, maxTick - 1, maxTick}, {5 + 1<<16, 5 + 1<<32}} {
		for _, window := range []int{1, 5, maxTick} {
			for _, number := range []int{0, 5, maxTick} {
				count(t, starts, window, number)
				keep(t, starts, window, number)
				within(t, starts, window, number)
				expectDefinition(t, starts, window, number)
			}
		}
	}
}

func TestStartsThatFall(t *testing.T) { // P12.1, P12.2, P12.3
	for _, starts := range [][]int{
		{1, 0}, {5, 4}, {maxTick, maxTick - 1}, {maxTick, 0}, {1 << 32, 1}, // by one, and by more
		{5, 4, 9, 12}, {1, 5, 4, 9}, {1, 5, 9, 8}, {9, 5, 1}, {5, 5, 4}, {5, 4, 4}, {1, 9, 5, 9}, // at the beginning, in the middle, at the end
	} {
		for _, window := range []int{1, 5, maxTick} {
			for _, number := range []int{0, 4, 5, 9, maxTick} {
				expectError(t, api.ErrOrder, starts, window, number)
			}
		}
		slices.Sort(starts)
		count(t, starts, 5, 9)
		keep(t, starts, 5, 9)
		within(t, starts, 5, 9)
	}
}

func TestFirstError(t *testing.T) { // P12.1, P12.2, P12.3, R2
	falls := []int{5, 1}
	for _, window := range []int{math.MinInt, -1, 0, maxTick + 1, math.MaxInt} { // the window before the starts, and before the number
		expectError(t, api.ErrRange, falls, window, 9)
		expectError(t, api.ErrRange, falls, window, -1)
		expectError(t, api.ErrRange, nil, window, -1)
	}
	for _, number := range []int{math.MinInt, -1} { // the starts before the number
		expectError(t, api.ErrOrder, falls, 2, number)
	}
	for _, tick := range []int{maxTick + 1, math.MaxInt} {
		expectCount(t, 0, api.ErrOrder, falls, 2, tick)
		expectKeep(t, nil, api.ErrOrder, falls, 2, tick)
	}
	for _, s := range wrong {
		expectError(t, api.ErrOrder, []int{5, 1, s}, 2, 9)           // a start that falls before one that is out of range
		expectError(t, api.ErrRange, []int{s, 5, 1}, 2, 9)           // one that is out of range before one that falls
		expectError(t, api.ErrRange, []int{5, s, 1}, 2, 9)           // also if they follow each other
		expectError(t, api.ErrRange, []int{5, s}, 2, 9)              // the range of each start before its order
		expectError(t, api.ErrOrder, []int{0, 0, 5, 1, s, 0}, 2, -1) // all of them
		expectError(t, api.ErrRange, []int{0, 0, 5, s, 1, 0}, 2, -1)
	}
}

func TestErrorsAreTheDefinition(t *testing.T) { // P12.1, P12.2, P12.3: several things together
	found := map[api.Errno]int{}
	windows := []int{math.MinInt, -1, 0, 1, 2, 5, maxTick, maxTick + 1, math.MaxInt}
	numbers := []int{math.MinInt, -1, 0, 1, 2, maxTick, maxTick + 1, math.MaxInt}
	for _, starts := range lists(3, math.MinInt, -1, 0, 1, 2, 5, maxTick, maxTick+1, math.MaxInt) {
		for _, window := range windows {
			for _, number := range numbers {
				expectDefinition(t, starts, window, number)
				found[wantTickError(starts, window, number)]++
			}
		}
	}
	for _, x := range edges {
		for _, y := range edges {
			for _, z := range edges {
				expectDefinition(t, []int{x}, y, z)
				expectDefinition(t, []int{x, y}, 5, z)
			}
			expectDefinition(t, nil, x, y)
		}
	}
	if found[api.OK] < 500 || found[api.ErrOrder] < 1000 || found[api.ErrRange] < 10000 {
		t.Errorf("the errors are %v: badly chosen", found)
	}
}

func TestNoStarts(t *testing.T) { // P12.1, P12.2, P12.3, R3: nil and empty lists are the same
	for _, starts := range [][]int{nil, {}, make([]int, 0, 4), []int{5, 1, -1}[:0]} {
		for _, window := range []int{1, 5, maxTick} {
			for _, number := range []int{0, 5, maxTick} {
				expectCount(t, 0, api.OK, starts, window, number)
				expectKeep(t, nil, api.OK, starts, window, number)
				expectWithin(t, true, api.OK, starts, window, number)
			}
		}
	}
}

func TestOneStart(t *testing.T) { // P12.1, P12.2, P12.3
	for _, s := range []int{0, 1, 5, 1 << 32, maxTick - 1, maxTick} {
		starts := []int{s}
		for _, window := range []int{1, 2, 5, maxTick} {
			expectCount(t, 1, api.OK, starts, window, s)
			for _, tick := range []int{0, 5, maxTick} {
				expectKeep(t, starts, api.OK, starts, window, tick)
			}
			expectWithin(t, false, api.OK, starts, window, 0)
			expectWithin(t, true, api.OK, starts, window, 1)
		}
	}
}

func TestCountAtTheEdges(t *testing.T) { // P12.1
	for window := 1; window <= 40; window++ {
		for _, s := range []int{0, 1, 7, 1 << 32, maxTick - 100} {
			starts := []int{s}
			expectCount(t, 1, api.OK, starts, window, s)
			expectCount(t, 1, api.OK, starts, window, s+window-1)
			expectCount(t, 0, api.OK, starts, window, s+window)
			expectCount(t, 0, api.OK, starts, window, s+window+1)
			if s > 0 {
				expectCount(t, 0, api.OK, starts, window, s-1)
			}
		}
	}
	starts := []int{10, 11, 12, 13, 14, 15, 16, 17, 18, 19, 20}
	for window := 1; window <= 7; window++ {
		expectCount(t, window, api.OK, starts, window, 16)
	}
	expectCount(t, 1, api.OK, []int{0, maxTick}, maxTick, maxTick) // the window is one tick too short for both
	expectCount(t, 2, api.OK, []int{1, maxTick}, maxTick, maxTick)
	expectCount(t, 1, api.OK, []int{1, maxTick}, maxTick-1, maxTick)
}

func TestCountOfEqualStarts(t *testing.T) { // P12.1
	starts := []int{3, 3, 3, 6, 6, 9, 9, 9, 9}
	for tick, want := range []int{0, 0, 0, 3, 3, 3, 2, 2, 2, 4, 4, 4, 0} {
		expectCount(t, want, api.OK, starts, 3, tick)
	}
	for tick, want := range []int{0, 0, 0, 3, 3, 3, 5, 2, 2, 6, 4, 4, 4, 0} {
		expectCount(t, want, api.OK, starts, 4, tick)
	}
}

func TestCountOfStartsAfterTheTick(t *testing.T) { // P12.1
	expectCount(t, 0, api.OK, []int{4, 5, maxTick}, 9, 3)
	expectCount(t, 1, api.OK, []int{3, 4, 5, maxTick}, 9, 3)
	expectCount(t, 2, api.OK, []int{0, 3, 4, 4, 5}, maxTick, 3)
	expectCount(t, 0, api.OK, []int{1, maxTick}, maxTick, 0)
}

func TestCountOfWideWindows(t *testing.T) { // P12.1: they are longer than all ticks before
	for _, window := range []int{10, 11, 100, 1 << 32, maxTick - 1, maxTick} {
		expectCount(t, 5, api.OK, []int{0, 1, 5, 5, 9}, window, 9)
		expectCount(t, 2, api.OK, []int{0, 1, 5, 5, 9}, window, 4)
		expectCount(t, 1, api.OK, []int{0, 1, 5, 5, 9}, window, 0)
	}
}

func TestCountIsTheDefinition(t *testing.T) { // P12.1
	none, some, all := 0, 0, 0
	each(func(s sample) {
		want, e := wantCount(s.starts, s.window, s.tick)
		expectCount(t, want, e, s.starts, s.window, s.tick)
		switch want {
		case 0:
			none++
		case len(s.starts):
			all++
		default:
			some++
		}
	})
	if none < 1000 || some < 1000 || all < 1000 {
		t.Errorf("%d times no start counts, %d times some do, %d times all do: badly chosen", none, some, all)
	}
}

func TestKeepOfStartsThatAllCount(t *testing.T) { // P12.2
	starts := []int{1, 5, 5, 9}
	for _, window := range []int{9, 10, 1 << 32, maxTick} {
		expectKeep(t, starts, api.OK, starts, window, 9)
	}
	for tick := range 10 { // also those that are after the tick
		expectKeep(t, starts, api.OK, starts, 9, tick)
	}
	expectKeep(t, starts, api.OK, starts, 1, 0)
}

func TestKeepOfStartsOfWhichNoneCounts(t *testing.T) { // P12.2: the last one is kept, once
	for _, starts := range [][]int{{9}, {1, 9}, {9, 9}, {1, 9, 9, 9}, {0, 0, 9}} {
		for _, tick := range []int{11, 12, 1 << 32, maxTick} {
			expectKeep(t, []int{9}, api.OK, starts, 2, tick)
		}
	}
	expectKeep(t, []int{0}, api.OK, []int{0, 0, 0}, 1, 1)
	expectKeep(t, []int{maxTick - 1}, api.OK, []int{0, maxTick - 1}, 1, maxTick)
}

func TestKeepOfStartsOfWhichSomeCount(t *testing.T) { // P12.2: the tick is before, between and after them
	starts := []int{2, 4, 4, 8, 9}
	for tick, from := range []int{0, 0, 0, 0, 0, 1, 1, 3, 3, 3, 3, 4, 4, 4, 4} {
		expectKeep(t, starts[from:], api.OK, starts, 3, tick)
	}
	expectKeep(t, []int{9, 9, 9}, api.OK, []int{1, 9, 9, 9}, 5, 13)
	expectKeep(t, []int{maxTick, maxTick}, api.OK, []int{0, 0, maxTick, maxTick}, maxTick, maxTick)
}

func TestKeepIsTheDefinition(t *testing.T) { // P12.2
	last, some, all := 0, 0, 0
	each(func(s sample) {
		want, e := wantKeep(s.starts, s.window, s.tick)
		expectKeep(t, want, e, s.starts, s.window, s.tick)
		switch len(want) {
		case len(s.starts):
			all++
		case 1:
			last++
		default:
			some++
		}
	})
	if last < 1000 || some < 1000 || all < 1000 {
		t.Errorf("%d times the last start is kept, %d times some are, %d times all are: badly chosen", last, some, all)
	}
}

func TestWithinOfLimits(t *testing.T) { // P12.3: below, at and above the greatest number of starts in an interval
	for _, row := range []struct {
		starts         []int
		window, number int
	}{
		{[]int{1, 5, 9}, 4, 1}, {[]int{1, 5, 9}, 5, 2}, {[]int{1, 5, 9}, 8, 2}, {[]int{1, 5, 9}, 9, 3}, {[]int{1, 5, 9}, maxTick, 3},
		{[]int{0, 1, 2, 10, 20}, 3, 3}, {[]int{0, 10, 11, 12, 20}, 3, 3}, {[]int{0, 10, 20, 21, 22}, 3, 3}, // first, in the middle, last
		{[]int{0, 1, 2, 10, 20}, 2, 2}, {[]int{0, 10, 11, 12, 20}, 2, 2}, {[]int{0, 10, 20, 21, 22}, 2, 2},
		{[]int{4, 4, 4}, 1, 3}, {[]int{4, 4, 5, 5, 5, 6}, 1, 3}, {[]int{4, 4, 5, 5, 5, 6}, 2, 5}, {[]int{4, 4, 4, 5}, 1, 3}, // equal ones
		{[]int{0, maxTick}, maxTick, 1}, {[]int{1, maxTick}, maxTick, 2}, {[]int{0, maxTick - 1}, maxTick, 2},
	} {
		for limit := 0; limit <= 8; limit++ {
			expectWithin(t, limit >= row.number, api.OK, row.starts, row.window, limit)
		}
	}
}

func TestWithinOfTheLimitZero(t *testing.T) { // P12.3
	each(func(s sample) {
		expectWithin(t, len(s.starts) == 0, api.OK, s.starts, s.window, 0)
	})
}

func TestWithinIsTheDefinition(t *testing.T) { // P12.3
	yes, no := 0, 0
	each(func(s sample) {
		for limit := range len(s.starts) + 2 {
			want, e := wantWithin(s.starts, s.window, limit)
			expectWithin(t, want, e, s.starts, s.window, limit)
			if want {
				yes++
			} else {
				no++
			}
		}
	})
	if yes < 1000 || no < 1000 {
		t.Errorf("%d limits hold, %d do not: badly chosen", yes, no)
	}
}

func TestManyStarts(t *testing.T) { // P12.1, P12.2, P12.3, R1
	const many = 1 << 20
	equal, apart := make([]int, many), make([]int, many)
	for i := range many {
		equal[i], apart[i] = 5, 3*i
	}
	expectLong := func(name string, ok bool) {
		t.Helper()
		if !ok {
			t.Error(name)
		}
	}
	expectLong("Count of equal starts", count(t, equal, 1, 5) == many && count(t, equal, 1, 6) == 0)
	expectLong("Count of others", count(t, apart, 30, 3*many/2) == 10 && count(t, apart, maxTick, maxTick-1) == many && count(t, apart, maxTick, maxTick) == many-1)
	expectLong("Keep of equal starts", slices.Equal(keep(t, equal, 1, 5), equal) && slices.Equal(keep(t, equal, 1, 6), []int{5}))
	expectLong("Keep of others", slices.Equal(keep(t, apart, 30, 3*many/2), apart[many/2-9:]))
	expectLong("Within of equal starts", within(t, equal, 1, many) && !within(t, equal, 1, many-1))
	expectLong("Within of others", within(t, apart, 30, 10) && !within(t, apart, 31, 10) && within(t, apart, 31, 11))
	apart[many-1] = 0
	expectError(t, api.ErrOrder, apart, 30, 7)
	apart[many-1] = -1
	expectError(t, api.ErrRange, apart, 30, 7)
}

// inside returns a list with the elements of l that has others before and behind it in its memory, and this memory.
func inside(l []int) (part, memory []int) {
	memory = slices.Concat([]int{-11, 0}, l, []int{maxTick, -14, 5})
	return memory[2 : 2+len(l)], memory
}

func TestArgumentsAreNotModified(t *testing.T) { // R3
	compare := func(s sample, number int) {
		starts, memory := inside(s.starts)
		before := slices.Clone(memory)
		Count(starts, s.window, number)
		Keep(starts, s.window, number)
		Within(starts, s.window, number)
		if !slices.Equal(memory, before) {
			t.Fatalf("%v is modified to %v by calls with %d and %d", before, memory, s.window, number)
		}
	}
	each(func(s sample) {
		compare(s, s.tick)
		compare(s, -1)
		compare(s, len(s.starts)/2)
	})
	for _, starts := range [][]int{{5, 1}, {5, -1, 3}, {maxTick + 1}, {1, 9, 5, 9}} {
		compare(sample{starts: starts, window: 5}, 9)
		compare(sample{starts: starts, window: 0}, 9)
	}
}

func TestListsEndWhereTheyEnd(t *testing.T) { // P12.1, P12.2, P12.3: what is behind them in memory is not seen
	each(func(s sample) {
		starts, _ := inside(s.starts)
		expectDefinition(t, starts, s.window, s.tick)
	})
}

func TestKeepReturnsNewMemory(t *testing.T) { // P12.2, R3
	each(func(s sample) {
		starts, memory := inside(s.starts)
		before := slices.Clone(memory)
		first, second := keep(t, starts, s.window, s.tick), keep(t, starts, s.window, s.tick)
		want := slices.Clone(first)
		for i := range second {
			second[i] = -77
		}
		_ = append(second, -78, -79, -80, -81)
		if !slices.Equal(memory, before) {
			t.Fatalf("what Keep(%v; %d, %d) returns shares memory with its argument", s.starts, s.window, s.tick)
		}
		for i := range memory {
			memory[i] = -88
		}
		if !slices.Equal(first, want) {
			t.Fatalf("what Keep(%v; %d, %d) returns shares memory with its argument, or with another result", s.starts, s.window, s.tick)
		}
	})
}

// later returns ticks from tick on: the next ones, those at which a start of the sample stops counting, those before and after, and the last ones.
func later(s sample) []int {
	var ticks []int
	for n := range 12 {
		ticks = append(ticks, s.tick+n)
	}
	for _, start := range s.starts {
		for n := -1; n <= 1; n++ {
			ticks = append(ticks, start+n, start+s.window+n)
		}
	}
	ticks = append(ticks, s.tick+s.window, s.tick+s.window/2, (s.tick+maxTick)/2, maxTick-1, maxTick)
	return slices.DeleteFunc(ticks, func(tick int) bool { return tick < s.tick || tick > maxTick })
}

func TestCountOfWhatIsKept(t *testing.T) { // P12.4
	less, counted := 0, 0
	each(func(s sample) {
		kept := keep(t, s.starts, s.window, s.tick)
		if len(kept) < len(s.starts) {
			less++
		}
		for _, tick := range later(s) {
			want := count(t, s.starts, s.window, tick)
			if got := count(t, kept, s.window, tick); got != want {
				t.Fatalf("Count(%v; %d, %d) = %d, but %d of what is kept at %d, which is %v", s.starts, s.window, tick, want, got, s.tick, kept)
			}
			counted += want
		}
	})
	if less < 1000 || counted < 1000 {
		t.Errorf("%d times not all starts are kept, %d are counted: badly chosen", less, counted)
	}
}

func TestKeepOfWhatIsKept(t *testing.T) { // P12.2, P12.4: what is kept at each tick, from the starts that were kept before it
	each(func(s sample) {
		kept := keep(t, s.starts, s.window, s.tick)
		for _, tick := range later(s) {
			expectKeep(t, keep(t, s.starts, s.window, tick), api.OK, kept, s.window, tick)
		}
	})
}

// most returns the greatest Count of all intervals of the window.
func most(t *testing.T, starts []int, window int) int {
	greatest := 0
	// Between these ticks Count does not grow: it only does where a start is reached.
	for _, tick := range later(sample{starts: starts, window: window}) {
		greatest = max(greatest, count(t, starts, window, tick))
	}
	return greatest
}

func TestWithinSaysItOfAllIntervals(t *testing.T) { // P12.5
	for _, starts := range rising(5, 6) { // each tick
		for window := 1; window <= 9; window++ {
			greatest := 0
			for tick := range 20 {
				greatest = max(greatest, count(t, starts, window, tick))
			}
			for limit := range len(starts) + 2 {
				expectWithin(t, greatest <= limit, api.OK, starts, window, limit)
			}
		}
	}
	each(func(s sample) {
		greatest := most(t, s.starts, s.window)
		expectWithin(t, true, api.OK, s.starts, s.window, greatest)
		if greatest > 0 {
			expectWithin(t, false, api.OK, s.starts, s.window, greatest-1)
		}
	})
}

// part returns the starts whose bits are set.
func part(starts []int, bits int) []int {
	var l []int
	for i, s := range starts {
		if bits>>i&1 == 1 {
			l = append(l, s)
		}
	}
	return l
}

// expectParts says that a limit that holds holds for parts of the starts.
func expectParts(t *testing.T, starts []int, window, limit int, choices []int) {
	t.Helper()
	if !within(t, starts, window, limit) {
		return
	}
	for _, bits := range choices {
		expectWithin(t, true, api.OK, part(starts, bits), window, limit)
	}
}

func TestWithinOfParts(t *testing.T) { // P12.5
	for _, starts := range rising(5, 6) {
		var choices []int
		for bits := range 1 << len(starts) {
			choices = append(choices, bits)
		}
		for window := 1; window <= 9; window++ {
			for limit := range len(starts) {
				expectParts(t, starts, window, limit, choices)
			}
		}
	}
	g := generator()
	for range 3000 {
		s := random(g)
		n := len(s.starts)
		var choices []int
		for i := range n + 1 { // beginnings, ends, all but one, and others
			choices = append(choices, 1<<i-1, 1<<n-1<<i, ^(1 << i), g.IntN(1<<n))
		}
		expectParts(t, s.starts, s.window, most(t, s.starts, s.window), choices)
	}
}

func TestWithinOfSmallerWindows(t *testing.T) { // P12.5
	for _, starts := range rising(5, 6) {
		for limit := range len(starts) + 1 {
			for window := 2; window <= 9; window++ {
				if within(t, starts, window, limit) {
					expectWithin(t, true, api.OK, starts, window-1, limit)
				}
			}
		}
	}
	g := generator()
	for range 3000 {
		s := random(g)
		limit := most(t, s.starts, s.window)
		for _, window := range []int{1, 2, s.window / 2, s.window - 1, 1 + g.IntN(s.window)} {
			if window >= 1 && window <= s.window {
				expectWithin(t, true, api.OK, s.starts, window, limit)
			}
		}
	}
}

func TestWithinAfterOneMoreStart(t *testing.T) { // P12.6
	appended, full := 0, 0
	each(func(s sample) {
		last := 0
		if len(s.starts) > 0 {
			last = slices.Max(s.starts)
		}
		if last > s.tick {
			return
		}
		limit := most(t, s.starts, s.window)
		for _, limit := range []int{limit, limit + 1} {
			if count(t, s.starts, s.window, s.tick) >= limit {
				// One more at this tick is one too many.
				expectWithin(t, false, api.OK, append(slices.Clone(s.starts), s.tick), s.window, limit)
				full++
				continue
			}
			for _, tick := range later(s) {
				expectWithin(t, true, api.OK, append(slices.Clone(s.starts), tick), s.window, limit)
				appended++
			}
		}
	})
	if appended < 1000 || full < 1000 {
		t.Errorf("%d starts are appended, %d are not: badly chosen", appended, full)
	}
}

func TestStartsWhileThereAreFew(t *testing.T) { // P12.6: start after start, from none on, with what is kept
	g := generator()
	for range 2000 {
		window, limit := 1+g.IntN(20), 1+g.IntN(8)
		var all, kept []int
		for tick := 0; tick < 100; tick += g.IntN(4) {
			if count(t, kept, window, tick) < limit {
				all = append(all, tick)
				kept = append(keep(t, kept, window, tick), tick)
			}
		}
		expectWithin(t, true, api.OK, all, window, limit)
	}
}

// moved returns the starts, each greater by n.
func moved(starts []int, n int) []int {
	l := slices.Clone(starts)
	for i := range l {
		l[i] += n
	}
	return l
}

func TestMovedStarts(t *testing.T) { // P12.7
	compared := 0
	each(func(s sample) {
		least, greatest := s.tick, s.tick
		for _, start := range s.starts {
			least, greatest = min(least, start), max(greatest, start)
		}
		n := count(t, s.starts, s.window, s.tick)
		kept := keep(t, s.starts, s.window, s.tick)
		for _, by := range []int{-least, -1, 1, 2, 1 << 16, 1 << 32, (maxTick - greatest) / 2, maxTick - greatest} {
			if least+by < 0 || greatest+by > maxTick {
				continue
			}
			starts := moved(s.starts, by)
			expectCount(t, n, api.OK, starts, s.window, s.tick+by)
			expectKeep(t, moved(kept, by), api.OK, starts, s.window, s.tick+by)
			for limit := range len(s.starts) + 1 {
				expectWithin(t, within(t, s.starts, s.window, limit), api.OK, starts, s.window, limit)
			}
			compared++
		}
	})
	if compared < 1000 {
		t.Errorf("%d samples are moved: badly chosen", compared)
	}
}

func TestIntervalsOfTwoParts(t *testing.T) { // P12.7
	compared := 0
	each(func(s sample) {
		w, tick := s.window, s.tick
		if tick < w {
			return
		}
		for _, v := range []int{1, 2, 3, 5, w, tick - w, tick, 1 << 32, maxTick - w - 1, maxTick - w} {
			if v < 1 || v+w > maxTick {
				continue
			}
			want := count(t, s.starts, w, tick) + count(t, s.starts, v, tick-w)
			expectCount(t, want, api.OK, s.starts, v+w, tick)
			compared++
		}
	})
	if compared < 1000 {
		t.Errorf("%d intervals are of two parts: badly chosen", compared)
	}
}

func TestCallsKeepNothing(t *testing.T) { // R6
	for range 3 {
		expectCount(t, 3, api.OK, []int{1, 5, 5, 9}, 5, 9)
		expectKeep(t, []int{5}, api.OK, []int{1, 5}, 2, 50)
		expectWithin(t, false, api.OK, []int{1, 5, 9}, 5, 1)
		expectError(t, api.ErrOrder, []int{5, 1}, 2, 9)
		expectCount(t, 1, api.OK, []int{1, 5, 5, 9}, 4, 9)
		expectKeep(t, nil, api.OK, nil, 2, 50)
		expectError(t, api.ErrRange, []int{1}, 0, 9)
		expectWithin(t, true, api.OK, []int{1, 5, 9}, 4, 1)
	}
}
