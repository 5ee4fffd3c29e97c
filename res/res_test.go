package res

import (
	"math"
	"math/big"
	"math/rand/v2"
	"slices"
	"testing"

	"sacristan/api"
)

const most = 1 << 40 // MaxRes, as DOC.md has it

// edges are 0, MaxRes, what is just outside of these, and the least and the greatest numbers, ascending.
var edges = []int{
	math.MinInt, math.MinInt + 1, math.MinInt + most, -most - 1, -most, -2, -1, 0, 1, 2,
	most/2 - 1, most / 2, most/2 + 1, most - 1, most, most + 1, math.MaxInt - most, math.MaxInt - 1, math.MaxInt,
}

// The reference calculates with numbers that have no greatest one, each resource on its own.

// fair returns a number that may be an amount as an int; false: it may not.
func fair(n *big.Int) (int, bool) {
	if n.Sign() < 0 || n.Cmp(big.NewInt(most)) > 0 {
		return 0, false
	}
	return int(n.Int64()), true
}

// total returns the sum of the numbers, of which each may be an amount, as it may itself.
func total(l []int) (int, bool) {
	sum := new(big.Int)
	for _, n := range l {
		term := big.NewInt(int64(n))
		if _, ok := fair(term); !ok {
			return 0, false
		}
		sum.Add(sum, term)
	}
	return fair(sum)
}

// left returns a - b, likewise.
func left(a, b int) (int, bool) {
	_, first := fair(big.NewInt(int64(a)))
	_, second := fair(big.NewInt(int64(b)))
	if !first || !second {
		return 0, false
	}
	return fair(new(big.Int).Sub(big.NewInt(int64(a)), big.NewInt(int64(b))))
}

// gathered returns amounts each of which has its own ok.
func gathered(cpu, mem, disk int, ok ...bool) (api.Res, bool) {
	if slices.Contains(ok, false) {
		return api.Res{}, false
	}
	return api.Res{CPU: cpu, Mem: mem, Disk: disk}, true
}

func wantSum(l ...api.Res) (api.Res, bool) {
	var cpu, mem, disk []int
	for _, r := range l {
		cpu, mem, disk = append(cpu, r.CPU), append(mem, r.Mem), append(disk, r.Disk)
	}
	c, cOK := total(cpu)
	m, mOK := total(mem)
	d, dOK := total(disk)
	return gathered(c, m, d, cOK, mOK, dOK)
}

func wantSub(a, b api.Res) (api.Res, bool) {
	c, cOK := left(a.CPU, b.CPU)
	m, mOK := left(a.Mem, b.Mem)
	d, dOK := left(a.Disk, b.Disk)
	return gathered(c, m, d, cOK, mOK, dOK)
}

func wantFits(a, b api.Res) bool {
	return a.CPU <= b.CPU && a.Mem <= b.Mem && a.Disk <= b.Disk
}

func wantCheck(r api.Res) api.Errno {
	if _, ok := wantSum(r); !ok {
		return api.ErrRange
	}
	return api.OK
}

// The samples.

// set returns r with the number n as its first, second or third amount.
func set(r api.Res, which, n int) api.Res {
	switch which {
	case 0:
		r.CPU = n
	case 1:
		r.Mem = n
	case 2:
		r.Disk = n
	}
	return r
}

// triples returns all amounts whose three numbers are in the list.
func triples(numbers []int) []api.Res {
	var all []api.Res
	for _, cpu := range numbers {
		for _, mem := range numbers {
			for _, disk := range numbers {
				all = append(all, api.Res{CPU: cpu, Mem: mem, Disk: disk})
			}
		}
	}
	return all
}

// coarse returns amounts whose numbers are the least, the greatest, those around 0 and those around MaxRes, in all ways.
func coarse() []api.Res {
	return triples([]int{math.MinInt, -1, 0, 1, most, most + 1, math.MaxInt})
}

// small returns valid amounts: 0, 1 and MaxRes in all ways, and some more.
func small() []api.Res {
	return append(triples([]int{0, 1, most}),
		api.Res{CPU: 1, Mem: 2, Disk: 3}, api.Res{CPU: 3, Mem: 2, Disk: 1}, api.Res{CPU: 4, Mem: 5, Disk: 6},
		api.Res{CPU: most - 1, Mem: most / 2, Disk: 7}, api.Res{CPU: most / 2, Mem: most/2 + 1, Disk: most - 1})
}

// mixed returns valid amounts, and some that are not.
func mixed() []api.Res {
	return append(small(),
		api.Res{CPU: -1}, api.Res{Mem: -1}, api.Res{Disk: -1}, api.Res{CPU: -1, Mem: -2, Disk: -3},
		api.Res{CPU: most + 1}, api.Res{Mem: most + 1}, api.Res{Disk: most + 1},
		api.Res{CPU: math.MinInt}, api.Res{Mem: math.MaxInt}, api.Res{Disk: math.MinInt},
		api.Res{CPU: math.MaxInt, Mem: math.MinInt, Disk: 1})
}

func generator() *rand.Rand {
	return rand.New(rand.NewPCG(9, 1))
}

// random returns amounts most of which are valid, from ranges of very different lengths.
func random(g *rand.Rand) api.Res {
	one := func() int {
		switch g.IntN(12) {
		case 0:
			return edges[g.IntN(len(edges))]
		case 1:
			return int(g.Uint64())
		case 2, 3:
			return g.IntN(4)
		}
		return g.IntN(1 << (1 + g.IntN(40)))
	}
	return api.Res{CPU: one(), Mem: one(), Disk: one()}
}

// eachPair calls f with pairs of amounts: two edges as one amount of each, the other two being valid and differing; all pairs of coarse ones; and random ones.
func eachPair(f func(a, b api.Res)) {
	for which := range 3 {
		for _, x := range edges {
			for _, y := range edges {
				f(set(api.Res{}, which, x), set(api.Res{}, which, y))
				f(set(api.Res{CPU: 40, Mem: 50, Disk: 60}, which, x), set(api.Res{CPU: 1, Mem: 2, Disk: 3}, which, y))
				f(set(api.Res{CPU: 1, Mem: 2, Disk: 3}, which, x), set(api.Res{CPU: 40, Mem: 50, Disk: 60}, which, y))
			}
		}
	}
	all := coarse()
	for _, a := range all {
		for _, b := range all {
			f(a, b)
		}
	}
	g := generator()
	for range 20000 {
		f(random(g), random(g))
	}
}

// eachPart calls f with the elements of each part of the list, the whole and the part without elements among them.
func eachPart(l []api.Res, f func(part []api.Res)) {
	for bits := range 1 << len(l) {
		var part []api.Res
		for i, r := range l {
			if bits>>i&1 != 0 {
				part = append(part, r)
			}
		}
		f(part)
	}
}

// eachOrder calls f with the list in all orders.
func eachOrder(l []api.Res, f func(l []api.Res)) {
	var place func(done, rest []api.Res)
	place = func(done, rest []api.Res) {
		if len(rest) == 0 {
			f(done)
		}
		for i, r := range rest {
			place(append(slices.Clone(done), r), slices.Delete(slices.Clone(rest), i, i+1))
		}
	}
	place(nil, l)
}

// eachList calls f with all lists of up to two mixed elements, and with random ones of up to six.
func eachList(f func(l []api.Res)) {
	all := mixed()
	f(nil)
	for _, a := range all {
		f([]api.Res{a})
		for _, b := range all {
			f([]api.Res{a, b})
		}
	}
	g := generator()
	for range 1000 {
		l := make([]api.Res, g.IntN(7))
		for i := range l {
			l[i] = all[g.IntN(len(all))]
			if g.IntN(2) == 0 {
				l[i] = random(g)
			}
		}
		f(l)
	}
	for range 1000 { // lists that mostly have a Sum
		l := make([]api.Res, g.IntN(7))
		for i := range l {
			l[i] = api.Res{CPU: g.IntN(most / 5), Mem: g.IntN(most / 4), Disk: g.IntN(9)}
		}
		f(l)
	}
}

// expect compares what a call returned with what it is to return.
func expect(t *testing.T, call string, args []api.Res, got api.Res, ok bool, want api.Res, wantOK bool) {
	t.Helper()
	if got != want || ok != wantOK {
		t.Fatalf("%s(%v) = %v, %v; want %v, %v", call, args, got, ok, want, wantOK)
	}
}

// The promises.

func TestExamples(t *testing.T) { // P9.2, P9.3, P9.4
	for _, c := range []struct {
		name   string
		call   func(l ...api.Res) (api.Res, bool)
		args   []api.Res
		want   api.Res
		wantOK bool
	}{
		{"Add", add, []api.Res{{CPU: 1, Mem: 2, Disk: 3}, {CPU: 4, Mem: 5, Disk: 6}}, api.Res{CPU: 5, Mem: 7, Disk: 9}, true},
		{"Sub", sub, []api.Res{{CPU: 4, Mem: 5, Disk: 6}, {CPU: 1, Mem: 2, Disk: 3}}, api.Res{CPU: 3, Mem: 3, Disk: 3}, true},
		{"Sub", sub, []api.Res{{CPU: 1, Mem: 2, Disk: 3}, {CPU: 1, Mem: 3, Disk: 3}}, api.Res{}, false},
		{"Add", add, []api.Res{{CPU: 1 << 40}, {CPU: 1}}, api.Res{}, false},
		{"Add", add, []api.Res{{CPU: -1}, {CPU: 1}}, api.Res{}, false},
		{"Sum", Sum, nil, api.Res{}, true},
		{"Sum", Sum, []api.Res{{CPU: 1}, {Mem: 1}, {CPU: 1, Mem: 1, Disk: 1}}, api.Res{CPU: 2, Mem: 2, Disk: 1}, true},
	} {
		got, ok := c.call(c.args...)
		expect(t, c.name, c.args, got, ok, c.want, c.wantOK)
	}
	if !Fits(api.Res{CPU: 1, Mem: 2, Disk: 3}, api.Res{CPU: 1, Mem: 2, Disk: 4}) {
		t.Error("1 2 3 does not fit 1 2 4")
	}
	if Fits(api.Res{CPU: 1, Mem: 2, Disk: 3}, api.Res{CPU: 9, Mem: 9, Disk: 2}) {
		t.Error("1 2 3 fits 9 9 2")
	}
}

func add(l ...api.Res) (api.Res, bool) {
	return Add(l[0], l[1])
}

func sub(l ...api.Res) (api.Res, bool) {
	return Sub(l[0], l[1])
}

func TestCheckOneAmount(t *testing.T) { // P9.1
	for n, want := range map[int]api.Errno{
		math.MinInt: api.ErrRange, -most: api.ErrRange, -1: api.ErrRange, 0: api.OK, 1: api.OK,
		most - 1: api.OK, most: api.OK, most + 1: api.ErrRange, math.MaxInt: api.ErrRange,
	} {
		for which := range 3 {
			for _, others := range []api.Res{{}, {CPU: 1, Mem: 2, Disk: 3}, {CPU: most, Mem: most, Disk: most}} {
				r := set(others, which, n)
				if got := Check(r); got != want {
					t.Errorf("Check(%v) = %v, want %v", r, got, want)
				}
			}
		}
	}
}

func TestCheckIsTheDefinition(t *testing.T) { // P9.1
	check := func(r api.Res) {
		if got, want := Check(r), wantCheck(r); got != want {
			t.Errorf("Check(%v) = %v, want %v", r, got, want)
		}
	}
	for _, r := range triples(edges) {
		check(r)
	}
	g := generator()
	for range 20000 {
		check(random(g))
	}
}

func TestAddAndSubAreTheDefinition(t *testing.T) { // P9.2
	eachPair(func(a, b api.Res) {
		args := []api.Res{a, b}
		got, ok := Add(a, b)
		want, wantOK := wantSum(a, b)
		expect(t, "Add", args, got, ok, want, wantOK)
		got, ok = Sub(a, b)
		want, wantOK = wantSub(a, b)
		expect(t, "Sub", args, got, ok, want, wantOK)
	})
}

func TestAddAroundTheGreatest(t *testing.T) { // P9.2
	for which := range 3 {
		for _, c := range []struct {
			a, b, want int
			wantOK     bool
		}{
			{0, 0, 0, true},
			{most, 0, most, true}, {0, most, most, true}, {most - 1, 1, most, true}, {most / 2, most / 2, most, true},
			{most, 1, 0, false}, {1, most, 0, false}, {most / 2, most/2 + 1, 0, false}, {most, most, 0, false},
			// The sum would be valid, the amounts are not.
			{-1, 1, 0, false}, {1, -1, 0, false}, {most + 1, -1, 0, false}, {-1, most + 1, 0, false}, {-1, most, 0, false},
			{math.MaxInt, -math.MaxInt, 0, false}, {-most, most + 1, 0, false},
			// The same, by going beyond the greatest int.
			{math.MinInt, math.MinInt, 0, false}, {math.MinInt + 2, math.MinInt + 3, 0, false},
			{math.MaxInt, math.MinInt + 1, 0, false},
			{math.MaxInt, math.MaxInt, 0, false}, {math.MaxInt, 1, 0, false}, {1, math.MaxInt, 0, false},
			{math.MaxInt, most, 0, false}, {math.MinInt, -1, 0, false},
		} {
			for _, others := range []api.Res{{}, {CPU: 1, Mem: 2, Disk: 3}} {
				a, b := set(others, which, c.a), set(others, which, c.b)
				var want api.Res
				if c.wantOK {
					want = set(api.Res{CPU: 2 * others.CPU, Mem: 2 * others.Mem, Disk: 2 * others.Disk}, which, c.want)
				}
				got, ok := Add(a, b)
				expect(t, "Add", []api.Res{a, b}, got, ok, want, c.wantOK)
			}
		}
	}
}

func TestSubAroundZero(t *testing.T) { // P9.2
	for which := range 3 {
		for _, c := range []struct {
			a, b, want int
			wantOK     bool
		}{
			{0, 0, 0, true}, {1, 1, 0, true}, {most, most, 0, true}, {most, 0, most, true}, {most, most - 1, 1, true}, {8, 7, 1, true},
			{0, 1, 0, false}, {7, 8, 0, false}, {most - 1, most, 0, false}, {0, most, 0, false},
			// The difference would be valid, the amounts are not.
			{-1, -1, 0, false}, {-1, -2, 0, false}, {0, -1, 0, false}, {1, -1, 0, false}, {0, -most, 0, false},
			{most + 1, 1, 0, false}, {most + 1, most + 1, 0, false}, {most + 1, most, 0, false}, {math.MaxInt, math.MaxInt, 0, false},
			// The same, by going beyond the least or the greatest int.
			{math.MinInt, math.MaxInt, 0, false}, {-2, math.MaxInt, 0, false}, {math.MaxInt, math.MinInt, 0, false},
			{math.MinInt, math.MinInt, 0, false}, {0, math.MinInt, 0, false},
		} {
			// The other two amounts leave something, or nothing.
			for _, others := range []api.Res{{CPU: 4, Mem: 5, Disk: 6}, {CPU: 1, Mem: 2, Disk: 3}} {
				a := set(others, which, c.a)
				b := set(api.Res{CPU: 1, Mem: 2, Disk: 3}, which, c.b)
				var want api.Res
				if c.wantOK {
					want = set(api.Res{CPU: others.CPU - 1, Mem: others.Mem - 2, Disk: others.Disk - 3}, which, c.want)
				}
				got, ok := Sub(a, b)
				expect(t, "Sub", []api.Res{a, b}, got, ok, want, c.wantOK)
			}
		}
	}
}

func TestFitsIsTheDefinition(t *testing.T) { // P9.3
	eachPair(func(a, b api.Res) {
		if got, want := Fits(a, b), wantFits(a, b); got != want {
			t.Fatalf("Fits(%v, %v) = %v", a, b, got)
		}
	})
}

func TestFitsOfAllNumbers(t *testing.T) { // P9.3
	for which := range 3 {
		for i, x := range edges { // which are ascending
			for j, y := range edges {
				for _, others := range []api.Res{{}, {CPU: -5, Mem: most + 5, Disk: 7}} {
					a, b := set(others, which, x), set(others, which, y)
					if got := Fits(a, b); got != (i <= j) {
						t.Errorf("Fits(%v, %v) = %v", a, b, got)
					}
				}
			}
		}
	}
}

func TestSumIsTheDefinition(t *testing.T) { // P9.4
	check := func(l []api.Res) {
		got, ok := Sum(l...)
		want, wantOK := wantSum(l...)
		expect(t, "Sum", l, got, ok, want, wantOK)
	}
	eachList(check)
	for _, r := range triples(edges) {
		check([]api.Res{r})
	}
	eachPair(func(a, b api.Res) { check([]api.Res{a, b}) })
}

func TestSumOfNothing(t *testing.T) { // P9.4
	for _, l := range [][]api.Res{nil, {}, make([]api.Res, 0, 4), make([]api.Res, 1), make([]api.Res, 1000)} {
		got, ok := Sum(l...)
		expect(t, "Sum", l, got, ok, api.Res{}, true)
	}
	got, ok := Sum()
	expect(t, "Sum", nil, got, ok, api.Res{}, true)
}

func TestSumOfManyElements(t *testing.T) { // P9.4
	l := make([]api.Res, 1024)
	for i := range l {
		l[i] = api.Res{CPU: i, Mem: most / 1024, Disk: 1}
	}
	got, ok := Sum(l...)
	expect(t, "Sum of 1024 elements", nil, got, ok, api.Res{CPU: 1023 * 512, Mem: most, Disk: 1024}, true)
	for i := range l {
		longer := slices.Insert(slices.Clone(l), i, api.Res{Mem: 1})
		got, ok = Sum(longer...)
		expect(t, "Sum of 1025 elements", nil, got, ok, api.Res{}, false)
	}
}

func TestSumAroundTheGreatest(t *testing.T) { // P9.4
	for which := range 3 {
		for _, numbers := range [][]int{{most}, {most - 2, 1, 1}, {0, most, 0}, {most / 4, most / 4, most / 4, most / 4}, {1, 2, most - 3, 0}} {
			var l []api.Res
			for _, n := range numbers {
				l = append(l, set(api.Res{CPU: 1, Mem: 1, Disk: 1}, which, n))
			}
			others := len(l)
			got, ok := Sum(l...)
			expect(t, "Sum", l, got, ok, set(api.Res{CPU: others, Mem: others, Disk: others}, which, most), true)
			for i := range len(l) + 1 {
				longer := slices.Insert(slices.Clone(l), i, set(api.Res{}, which, 1))
				got, ok = Sum(longer...)
				expect(t, "Sum", longer, got, ok, api.Res{}, false)
			}
		}
	}
}

func TestSumWithAnElementThatIsNotValid(t *testing.T) { // P9.4
	for which := range 3 {
		for _, n := range []int{math.MinInt, -most, -2, -1, most + 1, math.MaxInt} {
			bad := set(api.Res{CPU: 3, Mem: 3, Disk: 3}, which, n)
			// Lists with which the sum could be valid nevertheless, and lists that are too great without the element.
			for _, rest := range [][]api.Res{
				nil, {{}, {}}, {{CPU: 5, Mem: 5, Disk: 5}, {CPU: 6, Mem: 6, Disk: 6}, {CPU: most / 2, Mem: most / 2, Disk: most / 2}},
				{set(api.Res{}, which, most), {}}, {set(api.Res{}, which, most), set(api.Res{}, which, 1)}, {set(api.Res{}, which, -n)},
			} {
				for i := range len(rest) + 1 {
					l := slices.Insert(slices.Clone(rest), i, bad)
					got, ok := Sum(l...)
					expect(t, "Sum", l, got, ok, api.Res{}, false)
				}
			}
		}
	}
}

// TestSumThatGoesAround has a list so long that its sum, as an int, is 0 again.
func TestSumThatGoesAround(t *testing.T) { // P9.4
	l := make([]api.Res, 1<<24)
	for which := range 3 {
		for i := range l {
			l[i] = set(api.Res{}, which, most)
		}
		got, ok := Sum(l...)
		expect(t, "Sum of 2^24 elements", l[:1], got, ok, api.Res{}, false)
	}
}

func TestArgumentsAreNotModified(t *testing.T) { // P9.4, R3
	eachList(func(l []api.Res) {
		behind := api.Res{CPU: 7, Mem: 8, Disk: 9}
		given := append(slices.Clone(l), behind, behind)
		before := slices.Clone(given)
		Sum(given[:len(l)]...)
		if !slices.Equal(given, before) {
			t.Fatalf("after Sum %v is %v", before, given)
		}
	})
}

func TestAddDoesNotDependOnTheOrder(t *testing.T) { // P9.5
	eachPair(func(a, b api.Res) {
		got, ok := Add(a, b)
		want, wantOK := Add(b, a)
		expect(t, "Add", []api.Res{a, b}, got, ok, want, wantOK)
	})
}

func TestSubTakesBackWhatWasAdded(t *testing.T) { // P9.5
	count := 0
	eachPair(func(a, b api.Res) {
		sum, ok := Add(a, b)
		if !ok {
			return
		}
		count++
		got, ok := Sub(sum, b)
		expect(t, "Sub", []api.Res{sum, b}, got, ok, a, true)
		got, ok = Sub(sum, a)
		expect(t, "Sub", []api.Res{sum, a}, got, ok, b, true)
	})
	if count < 1000 {
		t.Error("only", count, "pairs have a sum")
	}
}

func TestSubIsTrueIfTheSecondFits(t *testing.T) { // P9.5
	eachPair(func(a, b api.Res) {
		if Check(a) != api.OK || Check(b) != api.OK {
			return
		}
		if _, ok := Sub(a, b); ok != Fits(b, a) {
			t.Fatalf("Sub(%v, %v) is %v", a, b, ok)
		}
	})
}

func TestSumDoesNotDependOnTheOrder(t *testing.T) { // P9.6
	eachList(func(l []api.Res) {
		l = l[:min(len(l), 5)] // longer ones have too many orders
		want, wantOK := Sum(l...)
		eachOrder(l, func(other []api.Res) {
			got, ok := Sum(other...)
			expect(t, "Sum", other, got, ok, want, wantOK)
		})
	})
}

func TestSumOfOneMoreElement(t *testing.T) { // P9.6
	all := mixed()
	eachList(func(l []api.Res) {
		sum, whole := Sum(l...)
		for _, r := range all {
			longer := append(slices.Clone(l), r)
			got, ok := Sum(longer...)
			var want api.Res
			var wantOK bool
			if whole {
				want, wantOK = Add(sum, r)
			}
			expect(t, "Sum", longer, got, ok, want, wantOK)
		}
	})
}

func TestSumOfParts(t *testing.T) { // P9.6
	count := 0
	eachList(func(l []api.Res) {
		sum, ok := Sum(l...)
		if !ok {
			return
		}
		count++
		eachPart(l, func(part []api.Res) {
			if got, ok := Sum(part...); !ok || !Fits(got, sum) {
				t.Fatalf("%v has the Sum %v, its part %v has %v, %v", l, sum, part, got, ok)
			}
		})
	})
	if count < 1000 {
		t.Error("only", count, "lists have a Sum")
	}
}

func TestFitsIsAnOrder(t *testing.T) { // P9.7
	g := generator()
	all := mixed()
	for range 30 {
		all = append(all, random(g))
	}
	for _, a := range all {
		if !Fits(a, a) {
			t.Errorf("%v does not fit itself", a)
		}
		for _, b := range all {
			if a != b && Fits(a, b) && Fits(b, a) {
				t.Errorf("%v and %v fit each other", a, b)
			}
			for _, c := range all {
				if Fits(a, b) && Fits(b, c) && !Fits(a, c) {
					t.Errorf("%v fits %v, which fits %v", a, b, c)
				}
			}
		}
	}
}

func TestFitsAfterAddingTheSame(t *testing.T) { // P9.7
	count := 0
	check := func(a, b, c api.Res) {
		first, firstOK := Add(a, c)
		second, secondOK := Add(b, c)
		if !firstOK || !secondOK {
			return
		}
		count++
		if Fits(a, b) != Fits(first, second) {
			t.Fatalf("Fits(%v, %v) is %v, not so with %v more", a, b, Fits(a, b), c)
		}
	}
	all := small()
	for _, a := range all {
		for _, b := range all {
			for _, c := range all {
				check(a, b, c)
			}
		}
	}
	g := generator()
	for range 20000 {
		check(random(g), random(g), random(g))
	}
	if count < 1000 {
		t.Error("only", count, "pairs can be added to")
	}
}

func TestCallsKeepNothing(t *testing.T) { // R6
	a, b := api.Res{CPU: 4, Mem: 5, Disk: 6}, api.Res{CPU: 1, Mem: 2, Disk: 3}
	for range 3 {
		got, ok := Add(a, b)
		expect(t, "Add", []api.Res{a, b}, got, ok, api.Res{CPU: 5, Mem: 7, Disk: 9}, true)
		got, ok = Sub(a, b)
		expect(t, "Sub", []api.Res{a, b}, got, ok, api.Res{CPU: 3, Mem: 3, Disk: 3}, true)
		got, ok = Sum(a, b, b)
		expect(t, "Sum", []api.Res{a, b, b}, got, ok, api.Res{CPU: 6, Mem: 9, Disk: 12}, true)
		got, ok = Sum(a, api.Res{CPU: -1}, b)
		expect(t, "Sum", []api.Res{a, {CPU: -1}, b}, got, ok, api.Res{}, false)
		if Check(a) != api.OK || Check(api.Res{Disk: -1}) != api.ErrRange || !Fits(b, a) || Fits(a, b) {
			t.Error("Check or Fits changed")
		}
	}
}
