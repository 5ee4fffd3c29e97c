package journal

import (
	"fmt"
	"maps"
	"math/bits"
	"slices"
	"testing"

	"sacristan/api"
	"sacristan/disk"
	"sacristan/frame"
	"sacristan/fuse"
)

// call is a call, what it makes of the model, and how many operations it uses.
type call struct {
	name  string
	do    func(s *scene) api.Errno
	then  func(m model) model
	ops   int
	opens bool
	// The sectors that it writes before its first sync, and after it.
	first, second func(m model) []int
}

func appending(data string) call {
	n := parts(data)
	return call{
		name: fmt.Sprintf("Append of %d sectors", n),
		do:   func(s *scene) api.Errno { return s.j.Append(data) },
		then: func(m model) model { return m.appended(data) },
		ops:  n + 1,
		first: func(m model) []int {
			return row(m.base()+m.used, n)
		},
		second: func(m model) []int { return nil },
	}
}

func compacting(list ...string) call {
	n := parts(list...)
	return call{
		name: fmt.Sprintf("Compact of %d sectors", n),
		do:   func(s *scene) api.Errno { return s.j.Compact(list...) },
		then: func(m model) model { return m.compacted(list...) },
		ops:  n + 3,
		first: func(m model) []int {
			return row(2+(1-m.head.Area)*m.area, n)
		},
		second: func(m model) []int { return row((m.head.Seq+1)%2, 1) },
	}
}

func opening() call {
	return call{
		name: "Open",
		do: func(s *scene) api.Errno {
			_, _, _, e := Open(s.d, s.m.area)
			return e
		},
		then:   func(m model) model { return m.opened() },
		ops:    2,
		opens:  true,
		first:  func(m model) []int { return row((m.head.Seq+1)%2, 1) },
		second: func(m model) []int { return nil },
	}
}

// row returns n numbers from at on.
func row(at, n int) []int {
	var list []int
	for i := range n {
		list = append(list, at+i)
	}
	return list
}

// calls are the calls that are cut.
func calls() []call {
	return []call{
		opening(), appending(""), appending(text(44)), appending(text(60)), appending(text(100)),
		compacting(), compacting("p"), compacting("p", "q"), compacting(text(50), "", "r"),
	}
}

// pendingAfter returns the sectors of the pending writes after k operations of a call.
func (c call) pendingAfter(m model, k int) []int {
	first, second := c.first(m), c.second(m)
	if k <= len(first) {
		return first[:k]
	}
	return second[:min(len(second), k-len(first)-1)]
}

// bytesOfTorn are numbers of bytes after which a write is torn: at and near the ends of the fields of frames and headers.
func bytesOfTorn() []int {
	return []int{1, 4, 6, 9, 10, 11, 12, 13, 14, 17, 18, 19, 23, 40, 62, 69, 73, 74, 78, 79}
}

// choices are all choices of n pending writes that are lost or kept, and for each number of bytes those where one of them is torn.
func choices(n int, torn []int, visit func(api.Choice)) {
	for keep := range uint64(1) << n {
		visit(api.Choice{Keep: keep, Torn: -1})
		for i := range n {
			if keep>>i&1 == 1 {
				continue // The bit of the torn one does not matter.
			}
			for _, b := range torn {
				visit(api.Choice{Keep: keep, Torn: i, Bytes: b})
			}
		}
	}
}

// ledger keeps the frames that were ever on a disk, by their names.
type ledger map[[3]int]string

// look finds the frames of a disk, as reads return them; no two have the same name and other contents.
func (l ledger) look(t *testing.T, d *disk.Disk) {
	t.Helper()
	for i, s := range sectorsOf(d) {
		f, e := frame.Decode(s)
		if e != api.OK {
			continue
		}
		name := [3]int{f.Boot, f.Lsn, f.Part}
		if old, ok := l[name]; ok && old != s {
			t.Fatalf("the sector %d has the frame %v with the contents %q, before that it had %q", i, name, s, old)
		}
		l[name] = s
	}
}

// same reports whether two models have the same snapshot and records.
func same(a, b model) bool {
	return slices.Equal(a.snapshot, b.snapshot) && slices.Equal(a.records, b.records)
}

// copied returns the scene of a copy of the disk, whose fuse is not armed, after a crash; it has not been opened.
func (s *scene) copied(c api.Choice) *scene {
	s.t.Helper()
	f := fuse.New()
	d := s.d.Copy(f)
	d.Crash(c)
	return sceneOf(s.t, d, f)
}

// cutBy lets a call crash after k operations, checks what is pending then, and shows what there is after each crash.
func (s *scene) cutBy(c call, k int, torn []int, visit func(after *scene, what string)) {
	s.t.Helper()
	what := fmt.Sprintf("%s cut after %d operations", c.name, k)
	want := c.then(s.m)
	s.f.Arm(k)
	if e := c.do(s); e != api.ErrDead || !s.f.Blown() {
		s.t.Fatalf("%s = %d", what, e)
	}
	if !c.opens {
		s.wantNumbers()
	}
	pending := c.pendingAfter(s.m, k)
	if !slices.Equal(s.d.Pending(), pending) {
		s.t.Fatalf("%s: pending %v, want %v", what, s.d.Pending(), pending)
	}
	now := sectorsOf(s.d)
	for _, i := range pending {
		if now[i] != want.image[i] {
			s.t.Fatalf("%s: the sector %d is %q, want %q", what, i, now[i], want.image[i])
		}
	}
	choices(len(pending), torn, func(choice api.Choice) {
		visit(s.copied(choice), fmt.Sprintf("%s, then %+v", what, choice))
	})
}

// wantOneOf checks that a disk contains what there was before, or what there would be after a call.
func (s *scene) wantOneOf(before, after model, what string) {
	s.t.Helper()
	if !same(s.m, before) && !same(s.m, after) {
		s.t.Fatalf("%s: %q and %q, want %q and %q, or %q and %q", what, s.m.snapshot, s.m.records, before.snapshot, before.records, after.snapshot, after.records)
	}
}

// goOn makes further calls, after each of which the next Open finds what they did.
func (s *scene) goOn() {
	s.t.Helper()
	for _, data := range []string{"on", text(50)} {
		if parts(data) <= s.m.room() {
			s.add(data)
			s.open()
		}
	}
	s.compact("z")
	s.open()
	s.add("w").compact().add("v")
	s.open()
}

// scenes are journals whose disks hold what several calls and crashes left, also behind the ends, and in the halves that are not used.
func scenes() map[string]func(t *testing.T) *scene {
	// left lets a call crash after k operations and a choice, and opens the journal again.
	left := func(s *scene, c call, k int, choice api.Choice) *scene {
		s.t.Helper()
		s.f.Arm(k)
		if e := c.do(s); e != api.ErrDead {
			s.t.Fatalf("%s cut after %d operations = %d", c.name, k, e)
		}
		before, after := s.m, c.then(s.m)
		s = s.copied(choice)
		s.wantOneOf(before, after, c.name)
		s.open()
		return s
	}
	return map[string]func(t *testing.T) *scene{
		"new":       func(t *testing.T) *scene { return start(t, 6) },
		"records":   func(t *testing.T) *scene { return start(t, 6).add("a", text(50), "") },
		"full":      func(t *testing.T) *scene { return start(t, 6).add("a", text(220)) },
		"compacted": func(t *testing.T) *scene { return start(t, 6).add("a", "b").compact("s", text(60)).add("c") },
		"empty snapshot": func(t *testing.T) *scene {
			return start(t, 6).add("a", "b", "c").compact()
		},
		"compacted twice": func(t *testing.T) *scene {
			return start(t, 6).add("a", "b", "c", "d", "e", "f").compact("s", "t", "u", "v").add("g", "h").compact("w")
		},
		"opened often": func(t *testing.T) *scene {
			s := start(t, 6).add("a")
			s.open()
			s.add(text(50))
			s.open()
			s.open()
			return s
		},
		"a record without its beginning": func(t *testing.T) *scene {
			return left(start(t, 6).add("a"), appending(text(100)), 3, api.Choice{Keep: 6, Torn: -1})
		},
		"a record without its end": func(t *testing.T) *scene {
			return left(start(t, 6).add("a"), appending(text(100)), 3, api.Choice{Keep: 3, Torn: 2, Bytes: 70})
		},
		"a first record without its end": func(t *testing.T) *scene {
			return left(start(t, 6), appending(text(100)), 3, api.Choice{Keep: 5, Torn: -1})
		},
		"a record that was kept": func(t *testing.T) *scene {
			return left(start(t, 6).add("a"), appending(text(100)), 3, api.Choice{Keep: 7, Torn: -1})
		},
		"records behind a shorter one": func(t *testing.T) *scene {
			s := left(start(t, 6).add("a"), appending(text(200)), 5, api.Choice{Keep: 30, Torn: 0, Bytes: 78})
			return s.add("b")
		},
		"a snapshot without a header": func(t *testing.T) *scene {
			return left(start(t, 6).add("a", "b"), compacting("s", "t", "u"), 4, api.Choice{Torn: -1})
		},
		"a snapshot with a torn header": func(t *testing.T) *scene {
			return left(start(t, 6).add("a", "b"), compacting("s", text(100)), 6, api.Choice{Torn: 0, Bytes: 75})
		},
		"a snapshot that was torn": func(t *testing.T) *scene {
			return left(start(t, 6).add("a", "b"), compacting("s", text(100)), 4, api.Choice{Keep: 13, Torn: 1, Bytes: 50})
		},
		"snapshots without headers, in both halves": func(t *testing.T) *scene {
			s := left(start(t, 6).add("a", "b"), compacting("s", "t", "u"), 4, api.Choice{Torn: -1})
			s = left(s.compact("x"), compacting("s", "t", "u", "v"), 5, api.Choice{Torn: -1})
			return s
		},
		"a header that was kept": func(t *testing.T) *scene {
			return left(start(t, 6).add("a", "b"), compacting("s", "t"), 4, api.Choice{Keep: 1, Torn: -1})
		},
		"openings that were torn": func(t *testing.T) *scene {
			s := start(t, 6).add("a")
			for _, b := range []int{3, 40, 76} {
				s = left(s, opening(), 1, api.Choice{Torn: 0, Bytes: b})
			}
			return s.add("b")
		},
	}
}

// sortedScenes yields the scenes in the order of their names.
func sortedScenes(visit func(name string, make func(t *testing.T) *scene)) {
	all := scenes()
	for _, name := range slices.Sorted(maps.Keys(all)) {
		visit(name, all[name])
	}
}

// fitsRoom reports whether a call that appends has room.
func fitsRoom(c call, m model) bool {
	place := c.first(m)
	return c.opens || len(c.second(m)) > 0 || len(place) <= m.room()
}

func TestEveryCallCutEverywhere(t *testing.T) { // P8.5, P8.6, P8.7: each choice of what is left, and the next Open
	sortedScenes(func(name string, make func(t *testing.T) *scene) {
		olds, news := 0, 0
		for _, c := range calls() {
			for k := range c.ops {
				s := make(t)
				if !fitsRoom(c, s.m) {
					continue
				}
				before, after := s.m, c.then(s.m)
				s.cutBy(c, k, bytesOfTorn(), func(left *scene, what string) {
					left.wantOneOf(before, after, name+": "+what)
					if same(left.m, before) {
						olds++
					} else {
						news++
					}
					left.open()
					if left.j.Boot() <= before.head.Boot {
						t.Fatalf("%s: %s: the boot %d after %d", name, what, left.j.Boot(), before.head.Boot)
					}
				})
			}
		}
		if olds < 50 || news < 4 {
			t.Errorf("%s: %d times the old contents, %d times the new ones: badly chosen", name, olds, news)
		}
	})
}

func TestEveryCallAsAWhole(t *testing.T) { // P8.5, P8.7: with as many operations as it uses it is not cut, and no crash undoes it
	sortedScenes(func(name string, make func(t *testing.T) *scene) {
		for _, c := range calls() {
			for more := range 2 {
				s := make(t)
				if !fitsRoom(c, s.m) {
					continue
				}
				s.f.Arm(c.ops + more)
				if e := c.do(s); e != api.OK || s.f.Blown() {
					t.Fatalf("%s: %s = %d", name, c.name, e)
				}
				for range more {
					s.f.Burn()
				}
				if s.f.Blown() || s.f.Burn() != api.ErrDead {
					t.Fatalf("%s: %s does not use %d operations", name, c.name, c.ops)
				}
				s.f.Reset()
				s.m = c.then(s.m)
				for _, choice := range []api.Choice{{Torn: -1}, {Torn: 0, Bytes: 7}, {Keep: 1<<64 - 1, Torn: -1}, {Keep: 5, Torn: 1, Bytes: 60}} {
					left := s.copied(choice)
					if !same(left.m, s.m) {
						t.Fatalf("%s: %s, then %+v: %q and %q", name, c.name, choice, left.m.snapshot, left.m.records)
					}
					left.open()
					left.goOn()
				}
			}
		}
	})
}

func TestCallsAfterCrashes(t *testing.T) { // P8.5: what later calls do is there, whatever an earlier one left
	sortedScenes(func(name string, make func(t *testing.T) *scene) {
		for _, c := range calls() {
			for k := range c.ops {
				s := make(t)
				if !fitsRoom(c, s.m) {
					continue
				}
				s.cutBy(c, k, []int{12, 75}, func(left *scene, what string) {
					left.open()
					left.goOn()
				})
			}
		}
	})
}

// reopen cuts openings in each way, depth times one after another, and then opens as a whole.
func (s *scene) reopen(depth int, visit func(*scene)) {
	s.t.Helper()
	last := s.copied(api.Choice{Torn: -1})
	last.open()
	visit(last)
	if depth == 0 {
		return
	}
	for k := range 2 {
		other := s.copied(api.Choice{Torn: -1})
		before := other.m
		other.cutBy(opening(), k, []int{5, 17, 77}, func(after *scene, what string) {
			if !same(after.m, before) {
				s.t.Fatalf("%s: %q and %q, want %q and %q", what, after.m.snapshot, after.m.records, before.snapshot, before.records)
			}
			after.reopen(depth-1, visit)
		})
	}
}

func TestOpeningsCutOverAndOver(t *testing.T) { // P8.5, P8.6
	sortedScenes(func(name string, make func(t *testing.T) *scene) {
		make(t).reopen(3, func(s *scene) {})
		for _, c := range []call{appending(text(60)), compacting("p", "q")} {
			for k := range c.ops {
				s := make(t)
				if !fitsRoom(c, s.m) {
					continue
				}
				before, after := s.m, c.then(s.m)
				s.cutBy(c, k, []int{70}, func(left *scene, what string) {
					found := left.m
					left.reopen(2, func(s *scene) {
						s.wantOneOf(before, after, name+": "+what)
						if !same(s.m, found) || s.j.Boot() <= before.head.Boot {
							t.Fatalf("%s: %s: not what the first opening found, or the boot %d", name, what, s.j.Boot())
						}
					})
				})
			}
		}
	})
}

func TestOpenOfANewDiskCut(t *testing.T) { // P8.5: the first opening of all
	blank(t, 3).reopen(4, func(s *scene) {
		if s.j.Lsn() != 0 || s.j.Room() != 3 || s.j.Boot() < 1 || s.j.Boot() > 5 {
			t.Fatalf("Boot, Lsn, Room = %d, %d, %d", s.j.Boot(), s.j.Lsn(), s.j.Room())
		}
		s.add("a")
		s.open()
	})
}

func TestTornAtEveryByte(t *testing.T) { // P8.5: the header of a call, and each sector of a record
	var all []int
	for b := range sectorSize {
		all = append(all, b)
	}
	for _, c := range []call{opening(), appending(text(60)), compacting(text(60))} {
		for k := 1; k < c.ops; k++ {
			s := scenes()["compacted twice"](t)
			before, after := s.m, c.then(s.m)
			s.cutBy(c, k, all, func(left *scene, what string) {
				left.wantOneOf(before, after, what)
				left.open()
				left.add("w")
				left.open()
			})
		}
	}
}

func TestLongRecordsCut(t *testing.T) { // P8.5: more pending writes than a choice has bits, of which one or two are not kept
	for _, c := range []call{appending(text(4096)), compacting("s", text(4096), text(4096))} {
		for k := range c.ops {
			s := start(t, 200).add("a")
			before, after := s.m, c.then(s.m)
			s.f.Arm(k)
			if e := c.do(s); e != api.ErrDead {
				t.Fatalf("%s = %d", c.name, e)
			}
			for _, choice := range []api.Choice{
				{Torn: -1}, {Keep: 1<<64 - 1, Torn: -1}, {Keep: 1<<64 - 1, Torn: k - 1, Bytes: 70}, {Keep: 1<<64 - 1, Torn: k / 2}, {Keep: 1<<64 - 2, Torn: -1},
			} {
				left := s.copied(choice)
				left.wantOneOf(before, after, fmt.Sprintf("%s cut after %d operations, then %+v", c.name, k, choice))
				left.open()
			}
		}
	}
}

// journey is a scene that goes through many crashes, with all that was ever known of it.
type journey struct {
	*scene
	seen ledger
	boot int // of the latest opening that was completed
}

// survive ends a crash: it opens until an opening is completed, of which some are cut, and checks that nothing else is lost or found.
func (w *journey) survive(before, after model, cuts []int, choice func() api.Choice) {
	w.t.Helper()
	for _, k := range append(cuts, 2) {
		w.seen.look(w.t, w.d)
		c := choice()
		w.d.Crash(c)
		w.f.Reset()
		m, ok := modelOf(sectorsOf(w.d))
		if !ok || !same(m, before) && !same(m, after) {
			w.t.Fatalf("after %+v: %q and %q (%t), want %q and %q, or %q and %q", c, m.snapshot, m.records, ok, before.snapshot, before.records, after.snapshot, after.records)
		}
		before, after, w.m = m, m, m
		w.f.Arm(k)
		if k < 2 {
			wantDeadOpen(w.t, w.d, w.m.area)
			continue
		}
		w.open()
		w.f.Reset()
	}
	w.seen.look(w.t, w.d)
	if w.j.Boot() <= w.boot {
		w.t.Fatalf("the boot %d after %d", w.j.Boot(), w.boot)
	}
	w.boot = w.j.Boot()
}

func wantDeadOpen(t *testing.T, d *disk.Disk, area int) {
	t.Helper()
	if j, snapshot, records, e := Open(d, area); j != nil || len(snapshot) != 0 || len(records) != 0 || e != api.ErrDead {
		t.Fatalf("Open with a crash = %v, %q, %q, %d", j, snapshot, records, e)
	}
}

func TestManyCrashes(t *testing.T) { // P8.5, P8.6: again and again, with all that earlier crashes left on the disk
	g := generator(3)
	cut, kept, lost := 0, 0, 0
	for range 250 {
		w := &journey{scene: start(t, 1+g.IntN(8)), seen: ledger{}, boot: 1}
		choice := func() api.Choice {
			return api.Choice{Keep: g.Uint64() | g.Uint64(), Torn: g.IntN(8) - 4, Bytes: g.IntN(sectorSize)}
		}
		for range 40 {
			c := appending(text(g.IntN(130)))
			if g.IntN(3) == 0 {
				c = compacting(randomList(g)...)
			}
			if !fitsRoom(c, w.m) || len(c.first(w.m)) > w.m.area {
				c = compacting()
			}
			before, after := w.m, c.then(w.m)
			k := g.IntN(2 * c.ops)
			w.f.Arm(k)
			e := c.do(w.scene)
			if (e == api.ErrDead) != (k < c.ops) || (e == api.OK) == (k < c.ops) {
				t.Fatalf("%s with a fuse armed with %d = %d", c.name, k, e)
			}
			if e == api.OK {
				w.f.Reset()
				w.m = after
				w.want()
				w.seen.look(t, w.d)
				if g.IntN(4) > 0 {
					continue
				}
				before = after
			}
			var cuts []int
			for range bits.TrailingZeros64(g.Uint64() | 8) {
				cuts = append(cuts, g.IntN(2))
			}
			w.survive(before, after, cuts, choice)
			if e == api.ErrDead {
				cut++
				if same(w.m, after) {
					kept++
				} else {
					lost++
				}
			}
		}
	}
	if cut < 1000 || kept < 100 || lost < 500 {
		t.Errorf("%d calls cut, %d of them kept, %d lost: badly chosen", cut, kept, lost)
	}
}

func TestFramesHaveOneContents(t *testing.T) { // P8.6: the same call, crash and opening, with other data each time
	for _, keep := range []uint64{0, 1, 2, 3, 1<<64 - 1} {
		for k := range 6 {
			w := &journey{scene: start(t, 8), seen: ledger{}, boot: 1}
			for i := range 12 {
				data := string(rune('a'+i)) + text(50)
				c := appending(data)
				if i%3 == 1 || !fitsRoom(c, w.m) {
					c = compacting(data, data+"x")
				}
				before, after := w.m, c.then(w.m)
				w.f.Arm(k)
				if e := c.do(w.scene); e == api.OK {
					before = after
				}
				w.survive(before, after, []int{1}, func() api.Choice { return api.Choice{Keep: keep, Torn: -1} })
			}
		}
	}
}

func TestCallsKeepNothing(t *testing.T) { // R6
	var first []any
	for range 2 {
		var list []any
		s := start(t, 6)
		for _, c := range calls() {
			for k := range c.ops + 1 {
				s.f.Arm(k)
				e := c.do(s)
				s.d.Crash(api.Choice{Keep: uint64(k), Torn: k - 2, Bytes: 20 * k})
				s.f.Reset()
				s = sceneOf(t, s.d, s.f)
				s.open()
				list = append(list, e, s.j.Boot(), s.j.Lsn(), s.j.Room(), fmt.Sprintf("%q %q", s.m.snapshot, s.m.records))
			}
		}
		if first == nil {
			first = list
		}
		if !slices.Equal(list, first) {
			t.Error("the same calls have other results")
		}
	}
}
