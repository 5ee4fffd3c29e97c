package ports

import (
	"math"
	"math/rand/v2"
	"slices"
	"testing"

	"sacristan/api"
)

const (
	most  = 8     // MaxPorts, as DOC.md has it
	first = 1     // the least port
	last  = 65535 // the greatest port
)

// edges are the least and the greatest numbers, 0, the least and the greatest port, what is beside these, and numbers that are equal to 80 if some of their bits are lost.
var edges = []int{
	math.MinInt, math.MinInt + 1, math.MinInt + 80, -1 << 32, -last - 1, -last, -80, -2, -1, 0, first, 2, 3, 79, 80, 81,
	80 + 1<<8, last - 1, last, last + 1, 80 + 1<<16, 80 + 1<<32, math.MaxInt - 1, math.MaxInt,
}

// The reference does without maps: it asks for each number whether it is in a list.

func wantCheck(l []int) api.Errno {
	if len(l) > most {
		return api.ErrLong
	}
	for i, n := range l {
		if n < first || n > last {
			return api.ErrRange
		}
		if i > 0 && l[i-1] >= n {
			return api.ErrOrder
		}
	}
	return api.OK
}

func wantHas(l []int, port int) bool {
	for i := range l {
		if l[i] == port {
			return true
		}
	}
	return false
}

// put returns the ascending list l with the number n at its place, unless it is there.
func put(l []int, n int) []int {
	i := 0
	for i < len(l) && l[i] < n {
		i++
	}
	if i < len(l) && l[i] == n {
		return l
	}
	return slices.Insert(l, i, n)
}

func wantMeet(a, b []int) []int {
	var want []int
	for _, n := range a {
		if wantHas(b, n) {
			want = put(want, n)
		}
	}
	return want
}

func wantUnion(l ...[]int) []int {
	var want []int
	for _, list := range l {
		for _, n := range list {
			want = put(want, n)
		}
	}
	return want
}

// The samples.

// lists returns all lists of at most n elements that are among the values, the empty one first.
func lists(n int, values ...int) [][]int {
	all := [][]int{nil}
	for i := 0; i < len(all); i++ {
		if len(all[i]) == n {
			break
		}
		for _, x := range values {
			all = append(all, append(slices.Clone(all[i]), x))
		}
	}
	return all
}

func generator() *rand.Rand {
	return rand.New(rand.NewPCG(10, 1))
}

// random returns a list of up to 20 elements, in any order: edges, numbers of few or of all bits, and often the same ones.
func random(g *rand.Rand) []int {
	l := make([]int, g.IntN(21))
	for i := range l {
		switch g.IntN(6) {
		case 0:
			l[i] = edges[g.IntN(len(edges))]
		case 1:
			l[i] = int(g.Uint64())
		case 2:
			l[i] = g.IntN(last + 2)
		default:
			l[i] = g.IntN(24) - 8
		}
	}
	return l
}

// portSet returns a list of n ports from 1 to top, ascending, each once.
func portSet(g *rand.Rand, n, top int) []int {
	var l []int
	for len(l) < n {
		l = put(l, 1+g.IntN(top))
	}
	return l
}

// eachPair calls f with pairs of lists: all pairs of short ones, and random ones.
func eachPair(f func(a, b []int)) {
	all := lists(3, -1, 0, 1, 5)
	all = append(all, []int{}, make([]int, 0, 4), edges, []int{math.MaxInt, math.MinInt, math.MaxInt}, []int{80, 443}, []int{443, 80})
	for _, a := range all {
		for _, b := range all {
			f(a, b)
		}
	}
	for _, x := range edges {
		for _, y := range edges {
			f([]int{x}, []int{y})
			f([]int{x, y, x}, []int{y, 80})
		}
	}
	g := generator()
	for range 5000 {
		f(random(g), random(g))
	}
}

// eachTriple calls f with triples of lists: all triples of short ones, and random ones.
func eachTriple(f func(a, b, c []int)) {
	all := append(lists(2, 7, -3, 0), []int{0, 7, -3}, []int{math.MinInt, math.MaxInt, 7})
	for _, a := range all {
		for _, b := range all {
			for _, c := range all {
				f(a, b, c)
			}
		}
	}
	g := generator()
	for range 3000 {
		f(random(g), random(g), random(g))
	}
}

// orders returns the list in other orders: backwards, turned, and shuffled.
func orders(g *rand.Rand, l []int) [][]int {
	back, shuffled := slices.Clone(l), slices.Clone(l)
	slices.Reverse(back)
	g.Shuffle(len(l), func(i, j int) { shuffled[i], shuffled[j] = shuffled[j], shuffled[i] })
	turned := slices.Concat(l[len(l)/2:], l[:len(l)/2])
	return [][]int{slices.Sorted(slices.Values(l)), back, turned, shuffled}
}

func expectCheck(t *testing.T, want api.Errno, l ...int) {
	t.Helper()
	if got := Check(l...); got != want {
		t.Errorf("Check(%v) = %v, want %v", l, got, want)
	}
}

func expectHas(t *testing.T, want bool, l []int, n int) {
	t.Helper()
	if got := Has(l, n); got != want {
		t.Errorf("Has(%v, %d) = %v", l, n, got)
	}
}

func expectMeet(t *testing.T, want, a, b []int) {
	t.Helper()
	if got := Meet(a, b); !slices.Equal(got, want) {
		t.Errorf("Meet(%v, %v) = %v, want %v", a, b, got, want)
	}
}

func expectUnion(t *testing.T, want []int, l ...[]int) {
	t.Helper()
	if got := Union(l...); !slices.Equal(got, want) {
		t.Errorf("Union(%v) = %v, want %v", l, got, want)
	}
}

// The promises.

func TestExamples(t *testing.T) { // P10.1, P10.2
	expectCheck(t, api.OK, 80, 443)
	expectCheck(t, api.ErrOrder, 443, 80)
	expectCheck(t, api.ErrOrder, 80, 80)
	expectCheck(t, api.ErrRange, 0)
	expectCheck(t, api.ErrLong, 1, 2, 3, 4, 5, 6, 7, 8, 9)
	expectMeet(t, []int{5, 9}, []int{1, 5, 9}, []int{9, 3, 5, 5})
	expectUnion(t, []int{1, 2, 3}, []int{3, 1}, []int{2, 3})
	expectUnion(t, nil)
	expectHas(t, true, []int{1, 5}, 5)
	expectHas(t, false, nil, 5)
}

func TestCheckOfSets(t *testing.T) { // P10.1
	if Check() != api.OK {
		t.Error("no element is not a set of ports")
	}
	for _, l := range [][]int{
		{}, {1}, {2}, {80}, {65534}, {65535}, {1, 2}, {1, 65535}, {65534, 65535}, {1, 2, 3}, {1, 80, 65535},
		{1, 2, 3, 4, 5, 6, 7}, {1, 2, 3, 4, 5, 6, 7, 8}, {65528, 65529, 65530, 65531, 65532, 65533, 65534, 65535},
		{1, 2, 255, 256, 257, 32767, 32768, 65535},
	} {
		expectCheck(t, api.OK, l...)
	}
	for n := first; n <= last; n++ {
		expectCheck(t, api.OK, n)
	}
}

func TestCheckOfNumbersThatAreNoPorts(t *testing.T) { // P10.1
	for _, n := range []int{
		math.MinInt, math.MinInt + 1, math.MinInt + 80, -1 << 32, -65536, -65535, -80, -2, -1, 0,
		65536, 65537, 65536 + 80, 1 << 17, 1 << 32, 1<<32 + 80, math.MaxInt - 1, math.MaxInt,
	} {
		expectCheck(t, api.ErrRange, n)
		for _, l := range [][]int{{80}, {80, 443}, {1, 2, 3, 4, 5, 6, 7}, {65529, 65530, 65531, 65532, 65533, 65534, 65535}} {
			for i := range len(l) + 1 { // at the beginning, in the middle and at the end
				expectCheck(t, api.ErrRange, slices.Insert(slices.Clone(l), i, n)...)
			}
			expectCheck(t, api.ErrRange, append(slices.Clone(l[:len(l)-1]), n, n)...)
		}
	}
}

func TestCheckOfNumbersOutOfOrder(t *testing.T) { // P10.1
	for _, set := range [][]int{{1, 65535}, {80, 443, 8080}, {2, 3, 4, 5, 6, 7, 8, 9}, {1, 100, 256, 257, 32768, 65000, 65534, 65535}} {
		for i := 1; i < len(set); i++ {
			equal, less := slices.Clone(set), slices.Clone(set)
			equal[i] = equal[i-1]
			expectCheck(t, api.ErrOrder, equal...)
			less[i-1], less[i] = less[i], less[i-1]
			expectCheck(t, api.ErrOrder, less...)
			if i > 1 { // greater than the element two places before, but not than the one before
				less = slices.Clone(set)
				less[i] = less[i-2] + 1
				expectCheck(t, api.ErrOrder, less...)
			}
		}
	}
	for _, n := range []int{1, 2, 80, 65534, 65535} {
		expectCheck(t, api.ErrOrder, n, n)
		expectCheck(t, api.ErrOrder, n, n, n, n, n, n, n, n)
	}
	expectCheck(t, api.ErrOrder, 1, 3, 2)
	expectCheck(t, api.ErrOrder, 2, 1, 3)
	expectCheck(t, api.ErrOrder, 1, 2, 1)
	expectCheck(t, api.ErrOrder, 65535, 1)
}

func TestCheckOfTooManyElements(t *testing.T) { // P10.1
	for _, n := range []int{9, 10, 16, 17, 255, 256, 257, 264, 1000, 65535, 65536, 65544} {
		set := make([]int, n)
		for i := range set {
			set[i] = i + 1
		}
		expectLong(t, set)
		expectLong(t, make([]int, n)) // zeros, equal ones
		for _, at := range []int{0, 1, 7, 8, n - 1} {
			other := slices.Clone(set)
			for _, x := range []int{0, 65536, -1, math.MinInt, math.MaxInt, other[(at+1)%n]} {
				other[at] = x
				expectLong(t, other)
			}
		}
		slices.Reverse(set)
		expectLong(t, set)
	}
}

func expectLong(t *testing.T, l []int) {
	t.Helper()
	if got := Check(l...); got != api.ErrLong {
		t.Errorf("Check of %d elements, %v and others, = %v, want ErrLong", len(l), l[:9], got)
	}
}

func TestCheckReturnsTheFirstError(t *testing.T) { // P10.1, R2
	for _, c := range []struct {
		want api.Errno
		l    []int
	}{
		// Both apply to the same element.
		{api.ErrRange, []int{5, 0}}, {api.ErrRange, []int{5, -5}}, {api.ErrRange, []int{1, 2, math.MinInt}}, {api.ErrRange, []int{1, 0, 2}},
		// The element before has one.
		{api.ErrRange, []int{0, 0}}, {api.ErrRange, []int{65536, 65536}}, {api.ErrRange, []int{65536, 5}}, {api.ErrRange, []int{math.MaxInt, math.MinInt}},
		{api.ErrOrder, []int{5, 5, 0}}, {api.ErrOrder, []int{5, 4, 65536}}, {api.ErrOrder, []int{2, 1, 0}}, {api.ErrOrder, []int{80, 80, math.MaxInt}},
		{api.ErrRange, []int{5, 65536, 6}}, {api.ErrRange, []int{5, 0, 5}}, {api.ErrRange, []int{0, 5, 5}}, {api.ErrRange, []int{1, 65536, 1, 1}},
		// The errors are far from each other.
		{api.ErrOrder, []int{1, 1, 2, 3, 4, 5, 6, 0}}, {api.ErrRange, []int{0, 1, 2, 3, 4, 5, 6, 6}},
		{api.ErrOrder, []int{1, 2, 3, 4, 5, 6, 6, 65536}}, {api.ErrRange, []int{1, 2, 3, 4, 5, 6, 65536, 6}},
		// Too many elements come before anything else.
		{api.ErrLong, []int{0, 0, 0, 0, 0, 0, 0, 0, 0}}, {api.ErrLong, []int{2, 1, 3, 4, 5, 6, 7, 8, 9}}, {api.ErrLong, []int{1, 2, 3, 4, 5, 6, 7, 8, 8}},
		{api.ErrLong, []int{1, 2, 3, 4, 5, 6, 7, 8, 65536}}, {api.ErrLong, []int{math.MinInt, 2, 3, 4, 5, 6, 7, 8, 9}},
	} {
		expectCheck(t, c.want, c.l...)
	}
}

func TestCheckIsTheDefinition(t *testing.T) { // P10.1
	for _, l := range lists(4, math.MinInt, -1, 0, 1, 2, 3, 65535, 65536, math.MaxInt) {
		expectCheck(t, wantCheck(l), l...)
	}
	g := generator()
	counts := map[api.Errno]int{}
	for range 40000 {
		l := portSet(g, g.IntN(11), 12+g.IntN(last-11))
		for range g.IntN(3) {
			if len(l) > 0 {
				l[g.IntN(len(l))] = edges[g.IntN(len(edges))]
			}
		}
		counts[wantCheck(l)]++
		expectCheck(t, wantCheck(l), l...)
	}
	for _, e := range []api.Errno{api.OK, api.ErrLong, api.ErrRange, api.ErrOrder} {
		if counts[e] < 1000 {
			t.Errorf("the error %v applies to %d lists only: badly chosen", e, counts[e])
		}
	}
}

func TestHasIsTheDefinition(t *testing.T) { // P10.2
	for _, n := range edges {
		for _, l := range [][]int{nil, {}, make([]int, 0, 3), edges, {n}, {n, n}, {n, 1, 2}, {1, n, 2}, {2, 1, n}, {9, 8, n, n, 7}, {n - 1, n + 1}} {
			expectHas(t, wantHas(l, n), l, n)
		}
		without := slices.DeleteFunc(slices.Clone(edges), func(x int) bool { return x == n })
		expectHas(t, false, without, n)
		expectHas(t, true, append(without, n), n)
	}
	g := generator()
	found, missed := 0, 0
	for range 5000 {
		l := random(g)
		for _, n := range append(random(g), l...) {
			if expectHas(t, wantHas(l, n), l, n); wantHas(l, n) {
				found++
			} else {
				missed++
			}
		}
	}
	if found < 10000 || missed < 10000 {
		t.Errorf("%d numbers are in a list, %d are not: badly chosen", found, missed)
	}
}

func TestHasSeesTheListOnly(t *testing.T) { // P10.2: not what is behind it in memory
	given := []int{3, 1, 2}
	expectHas(t, false, given[:2], 2)
	expectHas(t, false, given[1:], 3)
	expectHas(t, false, given[:0], 3)
}

func TestMeetIsTheDefinition(t *testing.T) { // P10.2
	found, none := 0, 0
	eachPair(func(a, b []int) {
		want := wantMeet(a, b)
		expectMeet(t, want, a, b)
		if len(want) > 0 {
			found++
		} else {
			none++
		}
	})
	if found < 3000 || none < 1000 {
		t.Errorf("%d pairs of lists meet, %d do not: badly chosen", found, none)
	}
}

func TestMeetOfNothing(t *testing.T) { // P10.2
	for _, empty := range [][]int{nil, {}, make([]int, 0, 4)} {
		for _, l := range [][]int{nil, {}, {0}, {1, 2, 3}, {math.MaxInt, math.MinInt}, {4, 4, 4}} {
			expectMeet(t, nil, empty, l)
			expectMeet(t, nil, l, empty)
		}
	}
	expectMeet(t, nil, []int{1, 3, 5}, []int{2, 4, 6})
	expectMeet(t, nil, []int{80}, []int{-80, 80 + 1<<8, 80 + 1<<16, 80 + 1<<32, math.MinInt + 80})
}

func TestUnionIsTheDefinition(t *testing.T) { // P10.2
	for _, l := range append(lists(5, 3, -2, 1), edges) {
		expectUnion(t, wantUnion(l), l)
	}
	eachPair(func(a, b []int) { expectUnion(t, wantUnion(a, b), a, b) })
	eachTriple(func(a, b, c []int) { expectUnion(t, wantUnion(a, b, c), a, b, c) })
	g := generator()
	for range 1000 {
		l := make([][]int, g.IntN(12))
		for i := range l {
			l[i] = random(g)
		}
		expectUnion(t, wantUnion(l...), l...)
	}
}

func TestUnionOfNothing(t *testing.T) { // P10.2
	expectUnion(t, nil)
	expectUnion(t, nil, [][]int{}...)
	expectUnion(t, nil, nil, nil)
	expectUnion(t, nil, []int{})
	expectUnion(t, nil, nil, []int{}, make([]int, 0, 5), nil)
	for i := range 4 { // lists without elements beside one with some
		l := make([][]int, 4)
		l[i] = []int{5, -5, 5, 0}
		expectUnion(t, []int{-5, 0, 5}, l...)
	}
}

func TestUnionOfOneList(t *testing.T) { // P10.2
	for _, c := range []struct{ l, want []int }{
		{[]int{7}, []int{7}}, {[]int{2, 1}, []int{1, 2}}, {[]int{0, 0, 0}, []int{0}}, {[]int{1, 2, 3}, []int{1, 2, 3}},
		{[]int{3, 1, 3, 2, 1}, []int{1, 2, 3}}, {[]int{math.MaxInt, 0, math.MinInt, -1}, []int{math.MinInt, -1, 0, math.MaxInt}},
		{[]int{65536, 0, -7, 65536}, []int{-7, 0, 65536}},
	} {
		expectUnion(t, c.want, c.l)
	}
}

func TestManyNumbers(t *testing.T) { // P10.2, R1
	var down, even, want, all []int
	for n := range 100000 {
		down = append(down, 50000-n)
		even = append(even, 2*(n%50000))
		all = append(all, n-49999)
		if n%2 == 0 && n <= 50000 {
			want = append(want, n)
		}
	}
	expectSame(t, "Meet", Meet(down, even), want)
	expectSame(t, "Meet", Meet(even, down), want)
	expectSame(t, "Union", Union(down), all)
	expectSame(t, "Union", Union(down, all, down), all)
	single := make([][]int, len(down))
	for i, n := range down {
		single[i] = []int{n}
	}
	expectSame(t, "Union", Union(single...), all)
	expectLong(t, down)
	expectSame(t, "Meet", Meet(make([]int, 1000000), make([]int, 1000000)), []int{0})
}

// expectSame compares without writing long lists.
func expectSame(t *testing.T, call string, got, want []int) {
	t.Helper()
	if !slices.Equal(got, want) {
		t.Errorf("%s of many numbers has %d elements that are not the %d wanted ones", call, len(got), len(want))
	}
}

func TestResultsAreAscending(t *testing.T) { // P10.2: each number once
	check := func(call string, l []int) {
		for i := 1; i < len(l); i++ {
			if l[i-1] >= l[i] {
				t.Fatalf("%s has the result %v", call, l)
			}
		}
	}
	eachPair(func(a, b []int) {
		check("Meet", Meet(a, b))
		check("Union", Union(a, b))
		check("Union", Union(a))
	})
}

// inside returns a list with the elements of l that has others before and behind it in its memory, and this memory.
func inside(l []int) (part, memory []int) {
	memory = slices.Concat([]int{-11, -12}, l, []int{-13, -14, -15})
	return memory[2 : 2+len(l)], memory
}

func TestArgumentsAreNotModified(t *testing.T) { // R3
	eachPair(func(a, b []int) {
		first, firstMemory := inside(a)
		second, secondMemory := inside(b)
		firstBefore, secondBefore := slices.Clone(firstMemory), slices.Clone(secondMemory)
		rows := [][]int{first, second, {-5}, nil}
		Check(first...)
		Has(first, 5)
		Meet(first, second)
		Meet(first, first)
		Union(rows...)
		Union(first)
		if !slices.Equal(firstMemory, firstBefore) || !slices.Equal(secondMemory, secondBefore) {
			t.Fatalf("%v and %v are modified to %v and %v", firstBefore, secondBefore, firstMemory, secondMemory)
		}
		if !slices.EqualFunc(rows, [][]int{a, b, {-5}, nil}, slices.Equal[[]int]) {
			t.Fatalf("Union modified the list of the lists %v and %v and two more to %v", a, b, rows)
		}
	})
}

func TestResultsAreNewMemory(t *testing.T) { // R3
	check := func(call func(a, b []int) []int, a, b []int) {
		first, firstMemory := inside(a)
		second, secondMemory := inside(b)
		firstBefore, secondBefore := slices.Clone(firstMemory), slices.Clone(secondMemory)
		result := call(first, second)
		before := slices.Clone(result)
		other := call(first, second)
		for _, l := range [][]int{other, other[len(other):cap(other)]} {
			for i := range l {
				l[i] = 77777
			}
		}
		if !slices.Equal(firstMemory, firstBefore) || !slices.Equal(secondMemory, secondBefore) {
			t.Fatalf("a result of %v and %v shares memory with them", a, b)
		}
		for i := range firstMemory {
			firstMemory[i] = 88888
		}
		for i := range secondMemory {
			secondMemory[i] = 99999
		}
		if !slices.Equal(result, before) {
			t.Fatalf("a result of %v and %v was %v, is %v", a, b, before, result)
		}
	}
	eachPair(func(a, b []int) {
		check(Meet, a, b)
		check(func(a, b []int) []int { return Union(a, b) }, a, b)
		check(func(a, _ []int) []int { return Union(a) }, a, nil)
		check(func(a, _ []int) []int { return Meet(a, a) }, a, nil)
		check(func(a, _ []int) []int { return Union(a, nil) }, a, nil)
		check(func(a, _ []int) []int { return Union(nil, a, a) }, a, nil)
	})
}

func TestOrderOfArguments(t *testing.T) { // P10.3
	eachPair(func(a, b []int) {
		expectMeet(t, Meet(a, b), b, a)
		expectUnion(t, Union(a, b), b, a)
	})
	eachTriple(func(a, b, c []int) {
		want := Union(a, b, c)
		for _, l := range [][][]int{{a, c, b}, {b, a, c}, {b, c, a}, {c, a, b}, {c, b, a}} {
			expectUnion(t, want, l...)
		}
	})
}

func TestOrderOfElements(t *testing.T) { // P10.3
	g := generator()
	eachPair(func(a, b []int) {
		meet, union, single := Meet(a, b), Union(a, b), Union(a)
		again := orders(g, b)
		for i, other := range orders(g, a) {
			expectMeet(t, meet, other, b)
			expectMeet(t, meet, b, other)
			expectMeet(t, meet, other, again[i])
			expectUnion(t, union, other, b)
			expectUnion(t, union, b, other)
			expectUnion(t, union, other, again[i])
			expectUnion(t, single, other)
		}
	})
}

func TestOneListTwice(t *testing.T) { // P10.3
	eachPair(func(a, _ []int) {
		once := Union(a)
		expectMeet(t, once, a, a)
		expectMeet(t, once, a, slices.Concat(a, a))
		expectUnion(t, once, a, a)
		for _, n := range a {
			expectHas(t, true, once, n)
		}
		for _, n := range once {
			expectHas(t, true, a, n)
		}
	})
}

func TestNumbersOfResults(t *testing.T) { // P10.4
	eachTriple(func(a, b, c []int) {
		meet, union := Meet(a, b), Union(a, b, c)
		for _, n := range slices.Concat(a, b, c, meet, union, []int{math.MinInt, -1, 0, 80, last, last + 1, math.MaxInt}) {
			if Has(meet, n) != (Has(a, n) && Has(b, n)) {
				t.Fatalf("%d in Meet(%v, %v) = %v: %v", n, a, b, meet, Has(meet, n))
			}
			if Has(union, n) != (Has(a, n) || Has(b, n) || Has(c, n)) {
				t.Fatalf("%d in Union(%v, %v, %v) = %v: %v", n, a, b, c, union, Has(union, n))
			}
		}
	})
}

func TestMeetOfSetsOfPorts(t *testing.T) { // P10.4
	g := generator()
	whole, some := 0, 0
	for range 20000 {
		top := []int{9, 12, 20, last}[g.IntN(4)]
		a, b := portSet(g, g.IntN(most+1), top), portSet(g, g.IntN(most+1), top)
		if g.IntN(8) == 0 {
			b = slices.Clone(a)
		}
		expectCheck(t, api.OK, a...)
		expectCheck(t, api.OK, b...)
		meet := Meet(a, b)
		expectCheck(t, api.OK, meet...)
		switch len(meet) {
		case most:
			whole++
		case 1, 2, 3, 4, 5, 6, 7:
			some++
		}
	}
	if whole < 100 || some < 5000 {
		t.Errorf("%d meet in all ports, %d in some: badly chosen", whole, some)
	}
}

func TestMeetIsDistributive(t *testing.T) { // P10.5
	eachTriple(func(a, b, c []int) {
		got, want := Meet(a, Union(b, c)), Union(Meet(a, b), Meet(a, c))
		if !slices.Equal(got, want) {
			t.Fatalf("of %v, %v, %v: %v, want %v", a, b, c, got, want)
		}
	})
}

func TestUnionIsDistributive(t *testing.T) { // P10.5
	eachTriple(func(a, b, c []int) {
		got, want := Union(a, Meet(b, c)), Meet(Union(a, b), Union(a, c))
		if !slices.Equal(got, want) {
			t.Fatalf("of %v, %v, %v: %v, want %v", a, b, c, got, want)
		}
	})
}

func TestCallsKeepNothing(t *testing.T) { // R6
	a, b := []int{9, 1, 5}, []int{5, 9, 3, 5}
	for range 3 {
		expectMeet(t, []int{5, 9}, a, b)
		expectMeet(t, []int{1}, []int{1}, a)
		expectUnion(t, []int{1, 3, 5, 9}, a, b)
		expectUnion(t, []int{3, 5, 9}, b)
		expectUnion(t, nil)
		expectCheck(t, api.OK, 80, 443)
		expectCheck(t, api.ErrOrder, 443, 80)
		expectCheck(t, api.OK, 1)
		expectHas(t, true, a, 5)
		expectHas(t, false, b, 1)
	}
}
