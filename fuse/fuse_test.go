package fuse

import (
	"math"
	"testing"

	"sacristan/api"
)

// reference is a fuse as the document describes it.
type reference struct {
	armed, blown bool
	number       int
}

func (r *reference) arm(k int) api.Errno {
	if k < 0 {
		return api.ErrRange
	}
	if r.blown {
		return api.ErrState
	}
	r.armed, r.number = true, k
	return api.OK
}

func (r *reference) burn() api.Errno {
	if r.blown {
		return api.ErrDead
	}
	if r.armed && r.number == 0 {
		r.armed, r.blown = false, true
		return api.ErrDead
	}
	if r.armed {
		r.number--
	}
	return api.OK
}

// pair is a fuse and what it should be.
type pair struct {
	f    *Fuse
	want reference
}

func (p *pair) arm(t *testing.T, k int) {
	t.Helper()
	if got, want := p.f.Arm(k), p.want.arm(k); got != want {
		t.Fatalf("Arm(%d) = %d, want %d", k, got, want)
	}
	p.look(t)
}

func (p *pair) burn(t *testing.T) {
	t.Helper()
	before := p.want
	if got, want := p.f.Burn(), p.want.burn(); got != want {
		t.Fatalf("Burn of %+v = %d, want %d", before, got, want)
	}
	p.look(t)
}

func (p *pair) reset(t *testing.T) {
	t.Helper()
	p.f.Reset()
	p.want = reference{}
	p.look(t)
}

func (p *pair) copy() pair {
	return pair{p.f.Copy(), p.want}
}

func (p *pair) look(t *testing.T) {
	t.Helper()
	if got := p.f.Blown(); got != p.want.blown {
		t.Fatalf("Blown of %+v = %t", p.want, got)
	}
}

// burnOut burns the fuse more often than any number that the tests arm small fuses with.
func (p *pair) burnOut(t *testing.T) {
	t.Helper()
	p.look(t)
	for range 12 {
		p.burn(t)
	}
}

// actions are what the tests do with a fuse; the numbers are few, so that all sequences can be tried.
func actions() []func(*testing.T, *pair) {
	return []func(*testing.T, *pair){
		func(t *testing.T, p *pair) { p.arm(t, -1) },
		func(t *testing.T, p *pair) { p.arm(t, 0) },
		func(t *testing.T, p *pair) { p.arm(t, 1) },
		func(t *testing.T, p *pair) { p.arm(t, 2) },
		func(t *testing.T, p *pair) { p.burn(t) },
		func(t *testing.T, p *pair) { p.reset(t) },
	}
}

// inEachState runs a test for every state, reached in different ways; build returns a new fuse in it.
func inEachState(t *testing.T, test func(t *testing.T, build func() pair)) {
	type way = func(*testing.T, *pair)
	burn := func(t *testing.T, p *pair) { p.burn(t) }
	reset := func(t *testing.T, p *pair) { p.reset(t) }
	arm := func(k int) way {
		return func(t *testing.T, p *pair) { p.arm(t, k) }
	}
	for _, c := range []struct {
		name string
		ways []way
	}{
		{"new", nil},
		{"burnt, not armed", []way{burn, burn}},
		{"armed with 0", []way{arm(0)}},
		{"armed with 1", []way{arm(1)}},
		{"armed with 7", []way{arm(7)}},
		{"armed twice", []way{arm(1), arm(4)}},
		{"armed with less", []way{arm(4), arm(1)}},
		{"burnt once", []way{arm(3), burn}},
		{"burnt to 0", []way{arm(2), burn, burn}},
		{"blown", []way{arm(0), burn}},
		{"blown for long", []way{arm(1), burn, burn, burn, burn}},
		{"armed and reset", []way{arm(5), reset}},
		{"blown and reset", []way{arm(0), burn, reset}},
		{"reset, armed again", []way{arm(0), burn, reset, arm(2)}},
	} {
		t.Run(c.name, func(t *testing.T) {
			test(t, func() pair {
				p := pair{f: New()}
				for _, f := range c.ways {
					f(t, &p)
				}
				return p
			})
		})
	}
}

func TestExamples(t *testing.T) { // P3.1, P3.2, P3.3
	f := New()
	for i, c := range []struct {
		got, want api.Errno
	}{
		{f.Burn(), api.OK}, {f.Arm(1), api.OK}, {f.Burn(), api.OK}, {f.Burn(), api.ErrDead}, {f.Burn(), api.ErrDead},
	} {
		if c.got != c.want {
			t.Errorf("call %d of the first example: %d, want %d", i, c.got, c.want)
		}
	}
	if !f.Blown() {
		t.Error("Blown = false after the first example")
	}
	if e := f.Arm(0); e != api.ErrState {
		t.Errorf("Arm(0) of a blown fuse = %d", e)
	}
	f.Reset()
	for i, c := range []struct {
		got, want api.Errno
	}{
		{f.Burn(), api.OK}, {f.Arm(-1), api.ErrRange}, {f.Arm(5), api.OK}, {f.Arm(0), api.OK}, {f.Burn(), api.ErrDead},
	} {
		if c.got != c.want {
			t.Errorf("call %d of the second example, after Reset: %d, want %d", i, c.got, c.want)
		}
	}
}

func TestNewFuseNeverBlows(t *testing.T) { // P3.1, P3.2, P3.4
	f := New()
	for i := range 10000 {
		if e := f.Burn(); e != api.OK {
			t.Fatalf("Burn %d of a fuse that was never armed = %d", i, e)
		}
		if f.Blown() {
			t.Fatalf("a fuse that was never armed has blown after %d operations", i+1)
		}
	}
}

func TestNewFusesAreIndependent(t *testing.T) { // P3.1, R6
	f, g := New(), New()
	f.Arm(0)
	f.Burn()
	if e := g.Burn(); e != api.OK || g.Blown() || New().Blown() {
		t.Errorf("Burn of another fuse = %d, Blown = %t", e, g.Blown())
	}
}

func TestArmRefuses(t *testing.T) { // P3.1, R2, R5: nothing changes by it
	inEachState(t, func(t *testing.T, build func() pair) {
		p := build()
		for _, k := range []int{-1, -2, -1000, math.MinInt} {
			if e := p.f.Arm(k); e != api.ErrRange {
				t.Errorf("Arm(%d) = %d, want ErrRange", k, e)
			}
		}
		if p.want.blown {
			for _, k := range []int{0, 1, 5, math.MaxInt} {
				if e := p.f.Arm(k); e != api.ErrState {
					t.Errorf("Arm(%d) = %d, want ErrState", k, e)
				}
			}
		}
		p.burnOut(t)
	})
}

func TestRefusedArmIsNotKeptForLater(t *testing.T) { // P3.1, R5
	f := New()
	f.Arm(0)
	f.Burn()
	f.Arm(3)
	f.Reset()
	for range 10 {
		if e := f.Burn(); e != api.OK {
			t.Fatalf("Burn after Reset = %d", e)
		}
	}
}

func TestArmReplacesTheNumber(t *testing.T) { // P3.1: whether it was armed before or not
	inEachState(t, func(t *testing.T, build func() pair) {
		for _, k := range []int{0, 1, 2, 6, 11} {
			p := build()
			p.arm(t, k)
			p.burnOut(t)
		}
	})
}

func TestExactlySoManyOperations(t *testing.T) { // P3.2, P3.4
	for _, k := range []int{0, 1, 2, 3, 7, 64, 255, 256, 4096, 70000} {
		f := New()
		if e := f.Arm(k); e != api.OK {
			t.Fatalf("Arm(%d) = %d", k, e)
		}
		for i := range k {
			if e := f.Burn(); e != api.OK || f.Blown() {
				t.Fatalf("Arm(%d): Burn %d = %d, Blown = %t", k, i, e, f.Blown())
			}
		}
		for i := range 100 {
			if e := f.Burn(); e != api.ErrDead || !f.Blown() {
				t.Fatalf("Arm(%d): Burn %d = %d, Blown = %t", k, k+i, e, f.Blown())
			}
		}
		f.Reset()
		if e := f.Burn(); e != api.OK || f.Blown() {
			t.Fatalf("Arm(%d): after Reset Burn = %d, Blown = %t", k, e, f.Blown())
		}
	}
}

func TestGreatestNumber(t *testing.T) { // P3.1, P3.2
	for _, k := range []int{math.MaxInt, math.MaxInt - 1, math.MaxInt32 + 1} {
		p := pair{f: New()}
		p.arm(t, k)
		p.burnOut(t)
		p.arm(t, 1)
		p.burnOut(t)
	}
}

func TestArmedIsNotBlown(t *testing.T) { // P3.3: not before the operation that is not performed
	f := New()
	f.Arm(0)
	if f.Blown() {
		t.Error("Blown of a fuse that is armed with 0")
	}
	f.Burn()
	if !f.Blown() {
		t.Error("Blown = false after the operation")
	}
}

func TestBlownStaysBlown(t *testing.T) { // P3.5
	f := New()
	f.Arm(0)
	f.Burn()
	for k := -3; k < 100; k++ {
		if e := f.Arm(k); e == api.OK {
			t.Fatalf("Arm(%d) of a blown fuse = OK", k)
		}
		f.Copy().Reset()
		if e := f.Burn(); e != api.ErrDead || !f.Blown() {
			t.Fatalf("after Arm(%d) Burn = %d, Blown = %t", k, e, f.Blown())
		}
	}
	f.Reset()
	if f.Blown() {
		t.Error("Blown after Reset")
	}
}

func TestResetInEachState(t *testing.T) { // P3.1, P3.3
	inEachState(t, func(t *testing.T, build func() pair) {
		p := build()
		p.reset(t)
		p.burnOut(t)
		p.reset(t)
		p.arm(t, 2)
		p.burnOut(t)
	})
}

func TestNil(t *testing.T) { // P3.1, P3.2, P3.3, R5
	var f *Fuse
	for _, k := range []int{0, 1, 5, -1, math.MinInt, math.MaxInt} {
		if e := f.Arm(k); e != api.ErrNil {
			t.Errorf("Arm(%d) of nil = %d", k, e)
		}
	}
	if e := f.Burn(); e != api.ErrNil {
		t.Errorf("Burn of nil = %d", e)
	}
	if f.Blown() {
		t.Error("Blown of nil")
	}
	f.Reset()
	if c := f.Copy(); c != nil {
		t.Errorf("Copy of nil = %v", c)
	}
}

// TestAllSequences does with fuses whatever can be done with them in seven calls.
func TestAllSequences(t *testing.T) { // P3.1 to P3.5
	list := actions()
	const calls = 7
	sequences := 1
	for range calls {
		sequences *= len(list)
	}
	for code := range sequences {
		p := pair{f: New()}
		for rest, i := code, 0; i < calls; i++ {
			list[rest%len(list)](t, &p)
			rest /= len(list)
		}
	}
}

func TestCopyIsEqual(t *testing.T) { // P3.3, P3.6: both do the same if the same is done with both
	inEachState(t, func(t *testing.T, build func() pair) {
		for _, act := range actions() {
			for _, more := range actions() {
				p := build()
				c := p.copy()
				if c.f == nil || c.f == p.f {
					t.Fatal("the copy is not another fuse")
				}
				for _, q := range []*pair{&p, &c} {
					q.look(t)
					act(t, q)
					more(t, q)
				}
				p.burnOut(t)
				c.burnOut(t)
			}
		}
	})
}

// inEachOrder runs a test with a fuse in every state and its copy, with either of them as the first.
func inEachOrder(t *testing.T, test func(t *testing.T, first, second *pair)) {
	inEachState(t, func(t *testing.T, build func() pair) {
		p := build()
		c := p.copy()
		test(t, &p, &c)
		p = build()
		c = p.copy()
		test(t, &c, &p)
	})
}

// TestCopyIsIndependent does something with one of a fuse and its copy, and then with the other.
func TestCopyIsIndependent(t *testing.T) { // P3.3, P3.6
	for _, act := range actions() {
		for _, more := range actions() {
			inEachOrder(t, func(t *testing.T, first, second *pair) {
				act(t, first)
				second.look(t)
				more(t, second)
				first.look(t)
				first.burnOut(t)
				second.burnOut(t)
				first.reset(t)
				second.burnOut(t)
				second.reset(t)
				first.burnOut(t)
			})
		}
	}
}

func TestFuseBurntOutLeavesItsCopy(t *testing.T) { // P3.6
	inEachOrder(t, func(t *testing.T, first, second *pair) {
		third := second.copy()
		first.burnOut(t)
		second.burnOut(t)
		third.burnOut(t)
	})
}

// TestAllSequencesOfTwo does with a fuse and its copy, taken at any time, whatever can be done with them in five calls.
func TestAllSequencesOfTwo(t *testing.T) { // P3.6
	list := actions()
	choices := 2*len(list) + 1
	const calls = 5
	sequences := 1
	for range calls {
		sequences *= choices
	}
	for code := range sequences {
		two := [2]pair{{f: New()}, {f: New()}}
		for rest, i := code, 0; i < calls; i++ {
			if at := rest % choices; at == 2*len(list) {
				two[1] = two[0].copy()
			} else {
				list[at/2](t, &two[at%2])
			}
			rest /= choices
		}
	}
}
