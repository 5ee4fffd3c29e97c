package disk

import (
	"fmt"
	"math"
	"math/rand/v2"
	"slices"
	"strings"
	"testing"

	"sacristan/api"
	"sacristan/fuse"
)

const size = api.SectorSize

// of returns a sector of equal bytes.
func of(b byte) string {
	return strings.Repeat(string([]byte{b}), size)
}

// striped returns a sector whose bytes all differ, and differ from those of other sectors with near numbers at the same place.
func striped(n int) string {
	data := make([]byte, size)
	for i := range data {
		data[i] = byte(n*3 + i + 1)
	}
	return string(data)
}

func newDisk(t *testing.T, n int) (*Disk, *fuse.Fuse) {
	t.Helper()
	f := fuse.New()
	d, e := New(n, f)
	if d == nil || e != api.OK {
		t.Fatalf("New(%d) = %v, %d", n, d, e)
	}
	return d, f
}

func copyOf(t *testing.T, d *Disk) *Disk {
	t.Helper()
	c := d.Copy(fuse.New())
	if c == nil || c == d {
		t.Fatal("the copy is not another disk")
	}
	return c
}

func mustWrite(t *testing.T, d *Disk, i int, data string) {
	t.Helper()
	if e := d.Write(i, data); e != api.OK {
		t.Fatalf("Write(%d) = %d", i, e)
	}
}

func mustSync(t *testing.T, d *Disk) {
	t.Helper()
	if e := d.Sync(); e != api.OK {
		t.Fatalf("Sync = %d", e)
	}
}

func wantRead(t *testing.T, d *Disk, i int, want string) {
	t.Helper()
	if got, e := d.Read(i); got != want || e != api.OK {
		t.Fatalf("Read(%d) = %q, %d, want %q", i, got, e, want)
	}
}

func wantDurable(t *testing.T, d *Disk, i int, want string) {
	t.Helper()
	if got := d.Durable(i); got != want {
		t.Fatalf("Durable(%d) = %q, want %q", i, got, want)
	}
}

func wantPending(t *testing.T, d *Disk, want ...int) {
	t.Helper()
	if got := d.Pending(); !slices.Equal(got, want) {
		t.Fatalf("Pending = %v, want %v", got, want)
	}
}

// reference is a disk, and its fuse, as the document describes them.
type reference struct {
	durable [][size]byte
	pending []referenceWrite
	full    bool
	armed   bool
	blown   bool
	number  int
}

type referenceWrite struct {
	sector int
	data   [size]byte
}

func (r *reference) burn() api.Errno {
	if r.armed && r.number == 0 {
		r.armed, r.blown = false, true
	}
	if r.blown {
		return api.ErrDead
	}
	if r.armed {
		r.number--
	}
	return api.OK
}

// latest is the latest write of a sector, or what is durable.
func (r *reference) latest(i int) string {
	data := r.durable[i]
	for _, w := range r.pending {
		if w.sector == i {
			data = w.data
		}
	}
	return string(data[:])
}

func (r *reference) read(i int) (string, api.Errno) {
	if i < 0 || i >= len(r.durable) {
		return "", api.ErrRange
	}
	if r.blown {
		return "", api.ErrDead
	}
	return r.latest(i), api.OK
}

func (r *reference) write(i int, data string) api.Errno {
	if i < 0 || i >= len(r.durable) {
		return api.ErrRange
	}
	if len(data) != size {
		return api.ErrArg
	}
	e := r.burn()
	if e == api.OK {
		r.pending = append(r.pending, referenceWrite{i, [size]byte([]byte(data))})
	}
	return e
}

func (r *reference) sync() api.Errno {
	e := r.burn()
	if e == api.OK {
		r.crash(api.Choice{Keep: math.MaxUint64, Torn: -1})
	}
	return e
}

// crash writes byte by byte what is left.
func (r *reference) crash(c api.Choice) {
	for i, w := range r.pending {
		bit := uint64(1)
		for range i % 64 {
			bit *= 2
		}
		bytes := 0
		if c.Keep&bit != 0 {
			bytes = size
		}
		if c.Torn == i {
			bytes = modulo(c.Bytes)
		}
		for k := range bytes {
			r.durable[w.sector][k] = w.data[k]
		}
	}
	r.pending = nil
}

// modulo is n modulo the bytes of a sector, by steps; n is small.
func modulo(n int) int {
	for n < 0 {
		n += size
	}
	for n >= size {
		n -= size
	}
	return n
}

func (r *reference) sectors() []int {
	var list []int
	for _, w := range r.pending {
		list = append(list, w.sector)
	}
	return list
}

func (r *reference) copy() *reference {
	other := *r
	other.durable, other.pending = slices.Clone(r.durable), slices.Clone(r.pending)
	other.armed, other.blown, other.number = false, false, 0
	return &other
}

// pair is a disk with its fuse, and what it should be.
type pair struct {
	d    *Disk
	f    *fuse.Fuse
	want *reference
}

func newPair(t *testing.T, n int) pair {
	t.Helper()
	d, f := newDisk(t, n)
	return pair{d, f, &reference{durable: make([][size]byte, n)}}
}

func (p pair) read(t *testing.T, i int) {
	t.Helper()
	got, e := p.d.Read(i)
	if want, wantE := p.want.read(i); got != want || e != wantE {
		t.Fatalf("Read(%d) = %q, %d, want %q, %d", i, got, e, want, wantE)
	}
}

func (p pair) write(t *testing.T, i int, data string) {
	t.Helper()
	if e, want := p.d.Write(i, data), p.want.write(i, data); e != want {
		t.Fatalf("Write(%d, %d bytes) = %d, want %d", i, len(data), e, want)
	}
}

func (p pair) sync(t *testing.T) {
	t.Helper()
	if e, want := p.d.Sync(), p.want.sync(); e != want {
		t.Fatalf("Sync = %d, want %d", e, want)
	}
}

func (p pair) crash(c api.Choice) {
	p.d.Crash(c)
	p.want.crash(c)
}

func (p pair) setFull(on bool) {
	p.d.SetFull(on)
	p.want.full = on
}

func (p pair) arm(k int) {
	if p.f.Arm(k) == api.OK {
		p.want.armed, p.want.number = true, k
	}
}

func (p pair) reset() {
	p.f.Reset()
	p.want.armed, p.want.blown = false, false
}

// copy is the disk's copy with a fuse that is not armed.
func (p pair) copy(t *testing.T) pair {
	t.Helper()
	f := fuse.New()
	d := p.d.Copy(f)
	if d == nil || d == p.d {
		t.Fatal("the copy is not another disk")
	}
	return pair{d, f, p.want.copy()}
}

// look compares all that can be seen of the disk, also of sectors that there are not.
func (p pair) look(t *testing.T) {
	t.Helper()
	n := len(p.want.durable)
	for i := range n {
		p.read(t, i)
		if got, want := p.d.Durable(i), string(p.want.durable[i][:]); got != want {
			t.Fatalf("Durable(%d) = %q, want %q", i, got, want)
		}
	}
	for _, i := range []int{-1, n} {
		p.read(t, i)
		if got := p.d.Durable(i); got != "" {
			t.Fatalf("Durable(%d) of %d sectors = %q", i, n, got)
		}
	}
	if got, want := p.d.Pending(), p.want.sectors(); !slices.Equal(got, want) {
		t.Fatalf("Pending = %v, want %v", got, want)
	}
	if p.d.Sectors() != n || p.d.Full() != p.want.full || p.f.Blown() != p.want.blown {
		t.Fatalf("Sectors = %d, Full = %t, Blown = %t, want %d, %t, %t", p.d.Sectors(), p.d.Full(), p.f.Blown(), n, p.want.full, p.want.blown)
	}
}

// state is a way to a disk of four sectors in some state.
type state struct {
	name  string
	build func(t *testing.T) pair
}

// states are the states in which the tests try every operation.
func states() []state {
	from := func(name string, ways ...func(*testing.T, pair)) state {
		return state{name, func(t *testing.T) pair {
			p := newPair(t, 4)
			for _, w := range ways {
				w(t, p)
			}
			return p
		}}
	}
	write := func(i, n int) func(*testing.T, pair) {
		return func(t *testing.T, p pair) { p.write(t, i, striped(n)) }
	}
	erase := func(t *testing.T, p pair) { p.write(t, 0, of(0)) }
	sync := func(t *testing.T, p pair) { p.sync(t) }
	tear := func(_ *testing.T, p pair) { p.crash(api.Choice{Keep: 1, Torn: 1, Bytes: 30}) }
	full := func(_ *testing.T, p pair) { p.setFull(true) }
	blow := func(t *testing.T, p pair) { p.arm(0); p.sync(t) }
	return []state{
		from("new"),
		from("pending", write(0, 1), write(1, 2)),
		from("synced", write(0, 1), write(1, 2), sync),
		from("pending over synced", write(0, 1), write(3, 2), sync, write(0, 3), write(1, 4), write(0, 5)),
		from("zeros over synced", write(0, 1), sync, erase),
		from("zeros synced", write(0, 1), sync, erase, sync),
		from("crashed", write(0, 1), write(1, 2), write(2, 3), tear),
		from("pending after a crash", write(0, 1), write(1, 2), tear, write(1, 3), write(0, 4)),
		from("full", write(0, 1), sync, full, write(2, 2)),
		from("armed", write(0, 1), sync, write(0, 2), func(_ *testing.T, p pair) { p.arm(2) }),
		from("blown", write(0, 1), sync, write(0, 2), write(2, 3), blow),
	}
}

// actions are what the tests do with a disk of four sectors.
func actions() []func(*testing.T, pair) {
	crash := func(keep uint64, torn, bytes int) func(*testing.T, pair) {
		return func(_ *testing.T, p pair) { p.crash(api.Choice{Keep: keep, Torn: torn, Bytes: bytes}) }
	}
	return []func(*testing.T, pair){
		func(t *testing.T, p pair) { p.write(t, 0, striped(40)) },
		func(t *testing.T, p pair) { p.write(t, 1, striped(41)) },
		func(t *testing.T, p pair) { p.write(t, 0, of(0)) },
		func(t *testing.T, p pair) { p.write(t, 4, striped(42)) },
		func(t *testing.T, p pair) { p.write(t, 3, "x") },
		func(t *testing.T, p pair) { p.sync(t) },
		crash(0, -1, 0),
		crash(math.MaxUint64, -1, 0),
		crash(2, 0, 17),
		func(_ *testing.T, p pair) { p.setFull(!p.want.full) },
		func(_ *testing.T, p pair) { p.arm(1) },
		func(_ *testing.T, p pair) { p.reset() },
	}
}

func inEachState(t *testing.T, test func(t *testing.T, build func() pair)) {
	for _, s := range states() {
		t.Run(s.name, func(t *testing.T) {
			test(t, func() pair { return s.build(t) })
		})
	}
}

func TestExamples(t *testing.T) { // P4.1 to P4.6
	d, _ := newDisk(t, 2)
	a, b, zero := of('a'), of('b'), of(0)
	mustWrite(t, d, 0, a)
	mustWrite(t, d, 1, b)
	mustWrite(t, d, 0, b)
	wantPending(t, d, 0, 1, 0)
	wantRead(t, d, 0, b)
	wantDurable(t, d, 0, zero)

	c := copyOf(t, d)
	c.Crash(api.Choice{Keep: 1, Torn: -1})
	wantDurable(t, c, 0, a)
	wantDurable(t, c, 1, zero)

	c = copyOf(t, d)
	c.Crash(api.Choice{Keep: 1, Torn: 2, Bytes: 3})
	wantDurable(t, c, 0, "bbb"+strings.Repeat("a", 77))

	c = copyOf(t, d)
	c.Crash(api.Choice{Keep: 0, Torn: 1, Bytes: -1})
	wantDurable(t, c, 1, strings.Repeat("b", 79)+"\x00")

	mustSync(t, d)
	d.Crash(api.Choice{Keep: 0, Torn: 0})
	wantDurable(t, d, 0, b)

	if e := d.Write(2, a); e != api.ErrRange {
		t.Errorf("Write(2, a) = %d", e)
	}
	if e := d.Write(0, "x"); e != api.ErrArg {
		t.Errorf("Write(0, x) = %d", e)
	}
	if s, e := d.Read(-1); s != "" || e != api.ErrRange {
		t.Errorf("Read(-1) = %q, %d", s, e)
	}
	if d, e := New(0, fuse.New()); d != nil || e != api.ErrRange {
		t.Errorf("New(0) = %v, %d", d, e)
	}
	if d, e := New(1, nil); d != nil || e != api.ErrNil {
		t.Errorf("New(1, nil) = %v, %d", d, e)
	}
}

func TestNewRefuses(t *testing.T) { // P4.1, R2: the number is checked before the fuse
	for _, n := range []int{0, -1, -2, -65536, math.MinInt, 65537, 65538, 1 << 17, 1<<32 + 1, math.MaxInt} {
		for _, f := range []*fuse.Fuse{nil, fuse.New()} {
			if d, e := New(n, f); d != nil || e != api.ErrRange {
				t.Errorf("New(%d), with a fuse: %t = %v, %d, want ErrRange", n, f != nil, d, e)
			}
		}
	}
	for _, n := range []int{1, 2, 65535, 65536} {
		if d, e := New(n, nil); d != nil || e != api.ErrNil {
			t.Errorf("New(%d, nil) = %v, %d, want ErrNil", n, d, e)
		}
	}
}

func TestNewDisk(t *testing.T) { // P4.1, P4.4, P4.6
	for _, n := range []int{1, 2, 98, 65535, 65536} {
		d, f := newDisk(t, n)
		if d.Sectors() != n || d.Full() || f.Blown() {
			t.Errorf("New(%d): Sectors = %d, Full = %t, Blown = %t", n, d.Sectors(), d.Full(), f.Blown())
		}
		wantPending(t, d)
		for i := range n {
			if s, e := d.Read(i); s != of(0) || e != api.OK || d.Durable(i) != of(0) {
				t.Fatalf("New(%d): Read(%d) = %q, %d, Durable = %q", n, i, s, e, d.Durable(i))
			}
		}
	}
}

func TestNewDoesNotBurn(t *testing.T) { // P4.1
	f := fuse.New()
	f.Arm(0)
	if d, e := New(3, f); d == nil || e != api.OK || f.Blown() {
		t.Fatalf("New with an armed fuse = %v, %d, Blown = %t", d, e, f.Blown())
	}
	f.Burn()
	d, e := New(3, f)
	if d == nil || e != api.OK || d.Durable(2) != of(0) {
		t.Fatalf("New with a fuse that has blown = %v, %d", d, e)
	}
	if e := d.Write(0, of('a')); e != api.ErrDead {
		t.Errorf("Write = %d", e)
	}
	f.Reset()
	mustWrite(t, d, 0, of('a'))
}

func TestDisksAreIndependent(t *testing.T) { // P4.1, R6: disks that have the same fuse too
	d, f := newDisk(t, 2)
	other, e := New(2, f)
	if e != api.OK {
		t.Fatal(e)
	}
	mustWrite(t, d, 0, of('a'))
	mustSync(t, d)
	mustWrite(t, d, 1, of('b'))
	d.SetFull(true)
	wantRead(t, other, 0, of(0))
	wantRead(t, other, 1, of(0))
	wantPending(t, other)
	if other.Full() {
		t.Error("another disk is full")
	}
	mustSync(t, other)
	wantPending(t, d, 1)
	f.Arm(1)
	mustWrite(t, other, 0, of('c'))
	if e := d.Sync(); e != api.ErrDead || !f.Blown() {
		t.Errorf("Sync = %d: the disks do not burn the same fuse", e)
	}
}

func TestReadAndWriteAtTheEnds(t *testing.T) { // P4.2, P4.3
	for _, n := range []int{1, 2, 3, 98, 65536} {
		d, f := newDisk(t, n)
		for _, i := range []int{-1, -2, n, n + 1, -n, 2*n + 1, math.MinInt, math.MaxInt, 1 << 32} {
			if i >= 0 && i < n {
				continue
			}
			f.Arm(0)
			if s, e := d.Read(i); s != "" || e != api.ErrRange {
				t.Errorf("%d sectors: Read(%d) = %q, %d", n, i, s, e)
			}
			if e := d.Write(i, of('a')); e != api.ErrRange {
				t.Errorf("%d sectors: Write(%d) = %d", n, i, e)
			}
			if s := d.Durable(i); s != "" {
				t.Errorf("%d sectors: Durable(%d) = %q", n, i, s)
			}
			if f.Blown() {
				t.Fatalf("%d sectors: what was refused at %d has burnt the fuse", n, i)
			}
		}
		wantPending(t, d)
		f.Reset()
		mustWrite(t, d, n-1, of('z'))
		mustWrite(t, d, 0, of('a'))
		if n > 1 {
			wantRead(t, d, n-1, of('z'))
		}
		wantRead(t, d, 0, of('a'))
		wantPending(t, d, n-1, 0)
	}
}

func TestReadReturnsTheLatestWrite(t *testing.T) { // P4.2
	d, _ := newDisk(t, 3)
	for n := range 20 {
		mustWrite(t, d, 1, striped(n))
		wantRead(t, d, 1, striped(n))
		wantRead(t, d, 0, of(0))
		if n%7 == 6 {
			mustSync(t, d)
			wantRead(t, d, 1, striped(n))
		}
	}
	mustWrite(t, d, 1, of(0))
	wantRead(t, d, 1, of(0))
	mustSync(t, d)
	wantRead(t, d, 1, of(0))
}

func TestWriteOfLengths(t *testing.T) { // P4.3
	d, f := newDisk(t, 2)
	mustWrite(t, d, 0, of('a'))
	for _, n := range []int{0, 1, 40, 79, 81, 160, 65536} {
		f.Arm(0)
		if e := d.Write(0, strings.Repeat("x", n)); e != api.ErrArg || f.Blown() {
			t.Errorf("Write of %d bytes = %d, Blown = %t", n, e, f.Blown())
		}
	}
	f.Reset()
	wantPending(t, d, 0)
	wantRead(t, d, 0, of('a'))
	// As many bytes, not as many runes.
	if e := d.Write(0, strings.Repeat("日", size)); e != api.ErrArg {
		t.Errorf("Write of %d runes = %d", size, e)
	}
	for _, s := range []string{of('b'), of(0), of(255), striped(9), strings.Repeat("日", 26) + "xx"} {
		mustWrite(t, d, 1, s)
		wantRead(t, d, 1, s)
	}
}

func TestWhichErrorIsFirst(t *testing.T) { // P4.2, P4.3, R2
	d, f := newDisk(t, 2)
	blow := func() {
		f.Arm(0)
		f.Burn()
	}
	for _, blown := range []bool{false, true} {
		if blown {
			blow()
		}
		for i, c := range []struct{ got, want api.Errno }{
			{d.Write(2, "x"), api.ErrRange},
			{d.Write(-1, ""), api.ErrRange},
			{d.Write(2, of('a')), api.ErrRange},
			{d.Write(1, "x"), api.ErrArg},
			{d.Write(0, ""), api.ErrArg},
		} {
			if c.got != c.want {
				t.Errorf("blown: %t, call %d: %d, want %d", blown, i, c.got, c.want)
			}
		}
		for _, i := range []int{-1, 2} {
			if s, e := d.Read(i); s != "" || e != api.ErrRange {
				t.Errorf("blown: %t, Read(%d) = %q, %d", blown, i, s, e)
			}
		}
	}
	if s, e := d.Read(1); s != "" || e != api.ErrDead {
		t.Errorf("Read when the fuse has blown = %q, %d", s, e)
	}
}

func TestArmedWith0(t *testing.T) { // P4.2, P4.3, P4.9
	for _, op := range []struct {
		name string
		do   func(d *Disk) api.Errno
	}{
		{"Write", func(d *Disk) api.Errno { return d.Write(1, of('c')) }},
		{"Sync", func(d *Disk) api.Errno { return d.Sync() }},
	} {
		d, f := newDisk(t, 2)
		mustWrite(t, d, 0, of('a'))
		mustSync(t, d)
		mustWrite(t, d, 0, of('b'))
		f.Arm(0)
		for range 10 {
			wantRead(t, d, 0, of('b'))
			wantDurable(t, d, 0, of('a'))
			wantPending(t, d, 0)
			if d.Sectors() != 2 || d.Full() || f.Blown() {
				t.Fatal("looking at a disk has burnt its fuse")
			}
		}
		for range 3 {
			if e := op.do(d); e != api.ErrDead || !f.Blown() {
				t.Fatalf("%s = %d, Blown = %t", op.name, e, f.Blown())
			}
		}
		for i := range 2 {
			if s, e := d.Read(i); s != "" || e != api.ErrDead {
				t.Errorf("after %s: Read(%d) = %q, %d", op.name, i, s, e)
			}
		}
		if e := d.Write(0, of('d')); e != api.ErrDead {
			t.Errorf("after %s: Write = %d", op.name, e)
		}
		if e := d.Sync(); e != api.ErrDead {
			t.Errorf("after %s: Sync = %d", op.name, e)
		}
		wantDurable(t, d, 0, of('a'))
		wantDurable(t, d, 1, of(0))
		wantPending(t, d, 0)
		f.Reset()
		wantRead(t, d, 0, of('b'))
		wantRead(t, d, 1, of(0))
	}
}

func TestEachOperationBurnsOnce(t *testing.T) { // P4.3: reads, looks and crashes burn nothing
	for k := range 12 {
		d, f := newDisk(t, 3)
		f.Arm(k)
		for n := range 16 {
			d.Read(n % 3)
			d.Durable(n % 3)
			d.Pending()
			d.SetFull(n%2 == 0)
			d.Copy(f)
			want := api.OK
			if n >= k {
				want = api.ErrDead
			}
			var e api.Errno
			if n%4 == 3 {
				e = d.Sync()
			} else {
				e = d.Write(n%3, striped(n))
			}
			if e != want {
				t.Fatalf("armed with %d: operation %d = %d, want %d", k, n, e, want)
			}
			if n%5 == 4 {
				d.Crash(api.Choice{Keep: 1, Torn: -1})
			}
		}
	}
}

func TestPending(t *testing.T) { // P4.4
	d, f := newDisk(t, 5)
	var want []int
	for n := range 100 {
		i := n * n % 5
		mustWrite(t, d, i, striped(n))
		want = append(want, i)
		wantPending(t, d, want...)
	}
	f.Arm(0)
	if e := d.Sync(); e != api.ErrDead {
		t.Fatalf("Sync = %d", e)
	}
	wantPending(t, d, want...)
	f.Reset()
	mustSync(t, d)
	wantPending(t, d)
	mustWrite(t, d, 3, of('a'))
	wantPending(t, d, 3)
	d.Crash(api.Choice{Torn: -1})
	wantPending(t, d)
}

func TestResultsShareNoMemory(t *testing.T) { // P4.4, R3
	d, _ := newDisk(t, 5)
	for i := range 5 {
		mustWrite(t, d, i, striped(i))
	}
	first, second := d.Pending(), d.Pending()
	for i := range first {
		first[i] = -7
	}
	first = append(first[:2], 9, 9, 9)
	// Before Pending is called again, which could write the same memory anew.
	if !slices.Equal(second, []int{0, 1, 2, 3, 4}) || len(first) != 5 {
		t.Errorf("another result of Pending: %v", second)
	}
	wantPending(t, d, 0, 1, 2, 3, 4)
	if !slices.Equal(first, []int{-7, -7, 9, 9, 9}) {
		t.Errorf("Pending has changed what it returned before: %v", first)
	}
	d.Crash(api.Choice{Keep: 0b10110, Torn: -1})
	for i, kept := range []bool{false, true, true, false, true} {
		if want := striped(i); kept {
			wantDurable(t, d, i, want)
		} else {
			wantDurable(t, d, i, of(0))
		}
	}
}

func TestDurable(t *testing.T) { // P4.4
	d, f := newDisk(t, 3)
	mustWrite(t, d, 1, of('a'))
	wantDurable(t, d, 1, of(0))
	mustSync(t, d)
	wantDurable(t, d, 1, of('a'))
	mustWrite(t, d, 1, of('b'))
	mustWrite(t, d, 2, of('c'))
	wantDurable(t, d, 1, of('a'))
	wantDurable(t, d, 2, of(0))
	f.Arm(0)
	f.Burn()
	wantDurable(t, d, 1, of('a'))
	wantDurable(t, d, 2, of(0))
	wantDurable(t, d, 0, of(0))
	for _, i := range []int{-1, 3, 4, math.MinInt, math.MaxInt} {
		wantDurable(t, d, i, "")
	}
	if d.Sectors() != 3 {
		t.Errorf("Sectors when the fuse has blown = %d", d.Sectors())
	}
}

// amounts are numbers of bytes of torn writes, with how many bytes that is of a sector.
func amounts() map[int]int {
	return map[int]int{
		0: 0, 1: 1, 2: 2, 39: 39, 40: 40, 78: 78, 79: 79, 80: 0, 81: 1, 159: 79, 160: 0, 161: 1, 239: 79, 1000: 40,
		-1: 79, -2: 78, -40: 40, -79: 1, -80: 0, -81: 79, -160: 0, -161: 79, -1000: 40,
		math.MaxInt: 47, math.MaxInt - 46: 1, math.MaxInt - 47: 0, math.MinInt: 32, math.MinInt + 47: 79, math.MinInt + 48: 0, math.MinInt + 49: 1,
	}
}

func TestCrashTearsAWrite(t *testing.T) { // P4.5: over zeros, and over what is durable; whatever the bit is
	for bytes, n := range amounts() {
		for _, keep := range []uint64{0, 1, 2, math.MaxUint64, math.MaxUint64 - 1} {
			d, _ := newDisk(t, 3)
			mustWrite(t, d, 1, striped(1))
			c := copyOf(t, d)
			c.Crash(api.Choice{Keep: keep, Torn: 0, Bytes: bytes})
			wantDurable(t, c, 1, striped(1)[:n]+of(0)[n:])
			wantRead(t, c, 1, striped(1)[:n]+of(0)[n:])
			mustSync(t, d)
			mustWrite(t, d, 1, striped(50))
			d.Crash(api.Choice{Keep: keep, Torn: 0, Bytes: bytes})
			wantDurable(t, d, 1, striped(50)[:n]+striped(1)[n:])
			wantRead(t, d, 1, striped(50)[:n]+striped(1)[n:])
			wantPending(t, d)
		}
	}
}

func TestCrashOfFourWrites(t *testing.T) { // P4.5: each of them lost, kept or torn
	for keep := range uint64(16) {
		for torn := -2; torn < 7; torn++ {
			d, _ := newDisk(t, 5)
			for i := range 4 {
				mustWrite(t, d, i, striped(i))
			}
			mustSync(t, d)
			for i := range 4 {
				mustWrite(t, d, i, striped(20+i))
			}
			d.Crash(api.Choice{Keep: keep, Torn: torn, Bytes: 33})
			for i := range 4 {
				want := striped(i)
				if keep>>i&1 == 1 {
					want = striped(20 + i)
				}
				if i == torn {
					want = striped(20 + i)[:33] + striped(i)[33:]
				}
				wantDurable(t, d, i, want)
				wantRead(t, d, i, want)
			}
			wantRead(t, d, 4, of(0))
			wantPending(t, d)
		}
	}
}

func TestCrashWithNoTornWrite(t *testing.T) { // P4.5: Torn negative, and past the last write
	for _, torn := range []int{-1, -2, -64, math.MinInt, 2, 3, 64, 66, 128, math.MaxInt} {
		for keep := range uint64(4) {
			d, _ := newDisk(t, 2)
			mustWrite(t, d, 0, of('a'))
			mustWrite(t, d, 1, of('b'))
			d.Crash(api.Choice{Keep: keep, Torn: torn, Bytes: 11})
			for i, data := range []string{of('a'), of('b')} {
				if keep>>i&1 == 0 {
					data = of(0)
				}
				wantDurable(t, d, i, data)
			}
		}
	}
}

func TestCrashOfManyWrites(t *testing.T) { // P4.5: the bit i modulo 64 of Keep
	const writes = 200
	for _, keep := range []uint64{0, 1, 2, 1 << 63, 1 << 32, 1<<63 | 1, 0xaaaaaaaaaaaaaaaa, 0x0123456789abcdef, math.MaxUint64, math.MaxUint64 - 1} {
		for _, torn := range []int{-1, 0, 63, 64, 65, 127, 128, 199, 200} {
			d, _ := newDisk(t, writes)
			for i := range writes {
				mustWrite(t, d, writes-1-i, striped(i))
			}
			d.Crash(api.Choice{Keep: keep, Torn: torn, Bytes: 5})
			for i := range writes {
				want := of(0)
				if keep&(1<<(i%64)) != 0 {
					want = striped(i)
				}
				if i == torn {
					want = striped(i)[:5] + of(0)[5:]
				}
				wantDurable(t, d, writes-1-i, want)
			}
		}
	}
}

func TestOneWriteOfASectorIsKeptAndOneTorn(t *testing.T) { // P4.5: the torn one in its turn
	build := func() *Disk {
		d, _ := newDisk(t, 2)
		mustWrite(t, d, 0, striped(1))
		mustSync(t, d)
		mustWrite(t, d, 0, striped(30))
		mustWrite(t, d, 1, striped(40))
		mustWrite(t, d, 0, striped(60))
		return d
	}
	first, second := striped(30), striped(60)
	d := build()
	d.Crash(api.Choice{Keep: 1, Torn: 2, Bytes: 9})
	wantDurable(t, d, 0, second[:9]+first[9:])
	d = build()
	d.Crash(api.Choice{Keep: 4, Torn: 0, Bytes: 9})
	wantDurable(t, d, 0, second)
	d = build()
	d.Crash(api.Choice{Keep: 0, Torn: 0, Bytes: 9})
	wantDurable(t, d, 0, first[:9]+striped(1)[9:])
	d = build()
	d.Crash(api.Choice{Keep: 0, Torn: 2, Bytes: 9})
	wantDurable(t, d, 0, second[:9]+striped(1)[9:])
	wantDurable(t, d, 1, of(0))
	d = build()
	d.Crash(api.Choice{Keep: 5, Torn: -1})
	wantDurable(t, d, 0, second)
	d = build()
	d.Crash(api.Choice{Keep: 1, Torn: -1})
	wantDurable(t, d, 0, first)
}

func TestCrashDoesNotLookAtTheFuse(t *testing.T) { // P4.5
	for _, ready := range []func(f *fuse.Fuse){
		func(*fuse.Fuse) {},
		func(f *fuse.Fuse) { f.Arm(0) },
		func(f *fuse.Fuse) { f.Arm(0); f.Burn() },
	} {
		d, f := newDisk(t, 2)
		mustWrite(t, d, 0, of('a'))
		mustWrite(t, d, 1, of('b'))
		ready(f)
		before := f.Blown()
		d.Crash(api.Choice{Keep: 2, Torn: -1})
		if f.Blown() != before {
			t.Error("Crash changed the fuse")
		}
		wantDurable(t, d, 0, of(0))
		wantDurable(t, d, 1, of('b'))
		wantPending(t, d)
		f.Reset()
		wantRead(t, d, 0, of(0))
		wantRead(t, d, 1, of('b'))
	}
}

func TestCrashForgetsWhatIsLost(t *testing.T) { // P4.2, P4.5: zeros and others
	d, _ := newDisk(t, 1)
	mustWrite(t, d, 0, of('a'))
	mustSync(t, d)
	mustWrite(t, d, 0, of(0))
	wantRead(t, d, 0, of(0))
	d.Crash(api.Choice{Torn: -1})
	wantRead(t, d, 0, of('a'))
	mustWrite(t, d, 0, of(0))
	d.Crash(api.Choice{Keep: 1, Torn: -1})
	wantRead(t, d, 0, of(0))
	wantDurable(t, d, 0, of(0))
	mustSync(t, d)
	wantRead(t, d, 0, of(0))
}

func TestZerosAreNotKept(t *testing.T) { // the map lacks sectors that are zeros
	d, _ := newDisk(t, 4)
	for i := range 4 {
		mustWrite(t, d, i, striped(i))
	}
	mustSync(t, d)
	if len(d.durable) != 4 {
		t.Errorf("%d sectors are kept, want 4", len(d.durable))
	}
	for i := range 4 {
		mustWrite(t, d, i, of(0))
	}
	mustSync(t, d)
	if len(d.durable) != 0 || len(d.latest) != 0 || len(d.pending) != 0 {
		t.Errorf("kept: %v, %v, %v", d.durable, d.latest, d.pending)
	}
}

func TestFull(t *testing.T) { // P4.6: only a mark
	d, f := newDisk(t, 2)
	for _, on := range []bool{true, true, false, false, true} {
		d.SetFull(on)
		if d.Full() != on {
			t.Fatalf("SetFull(%t): Full = %t", on, d.Full())
		}
		mustWrite(t, d, 0, of('a'))
		mustSync(t, d)
		mustWrite(t, d, 1, of('b'))
		d.Crash(api.Choice{Keep: 1, Torn: -1})
		wantDurable(t, d, 0, of('a'))
		wantRead(t, d, 1, of('b'))
		if d.Full() != on || copyOf(t, d).Full() != on {
			t.Fatalf("Full = %t after writes and a crash, %t of a copy, want %t", d.Full(), copyOf(t, d).Full(), on)
		}
	}
	f.Arm(0)
	f.Burn()
	d.SetFull(false)
	if d.Full() {
		t.Error("SetFull did nothing when the fuse had blown")
	}
}

func TestNil(t *testing.T) { // P4.2 to P4.6, R5
	var d *Disk
	for _, i := range []int{-1, 0, 1, math.MinInt, math.MaxInt} {
		if s, e := d.Read(i); s != "" || e != api.ErrNil {
			t.Errorf("Read(%d) of nil = %q, %d", i, s, e)
		}
		for _, data := range []string{"", "x", of('a')} {
			if e := d.Write(i, data); e != api.ErrNil {
				t.Errorf("Write(%d) of nil = %d", i, e)
			}
		}
		if s := d.Durable(i); s != "" {
			t.Errorf("Durable(%d) of nil = %q", i, s)
		}
	}
	if e := d.Sync(); e != api.ErrNil {
		t.Errorf("Sync of nil = %d", e)
	}
	d.Crash(api.Choice{Keep: 1, Torn: 0, Bytes: 3})
	d.SetFull(true)
	if d.Full() || d.Sectors() != 0 || len(d.Pending()) != 0 {
		t.Errorf("nil: Full = %t, Sectors = %d, Pending = %v", d.Full(), d.Sectors(), d.Pending())
	}
	if c := d.Copy(fuse.New()); c != nil {
		t.Errorf("Copy of nil = %v", c)
	}
	if c := d.Copy(nil); c != nil {
		t.Errorf("Copy of nil with no fuse = %v", c)
	}
}

func TestCopyWithoutAFuse(t *testing.T) { // P4.6
	inEachState(t, func(t *testing.T, build func() pair) {
		p := build()
		if c := p.d.Copy(nil); c != nil {
			t.Errorf("Copy(nil) = %v", c)
		}
		p.look(t)
	})
}

func TestCopyIsEqual(t *testing.T) { // P4.6: both do the same if the same is done with both
	inEachState(t, func(t *testing.T, build func() pair) {
		for _, act := range actions() {
			for _, more := range actions() {
				p := build()
				c := p.copy(t)
				for _, q := range []pair{p, c} {
					q.look(t)
					act(t, q)
					more(t, q)
					q.look(t)
				}
			}
		}
	})
}

func TestCopyIsIndependent(t *testing.T) { // P4.6, R3: one is changed, and then the other
	for _, act := range actions() {
		for _, more := range actions() {
			inEachState(t, func(t *testing.T, build func() pair) {
				for first := range 2 {
					p := build()
					two := [2]pair{p, p.copy(t)}
					act(t, two[first])
					two[1-first].look(t)
					more(t, two[1-first])
					two[first].look(t)
					act(t, two[1-first])
					more(t, two[first])
					two[0].look(t)
					two[1].look(t)
				}
			})
		}
	}
}

func TestCopyBurnsTheGivenFuse(t *testing.T) { // P4.6: that one alone, in whatever state it is
	d, f := newDisk(t, 2)
	mustWrite(t, d, 0, of('a'))
	g := fuse.New()
	g.Arm(1)
	f.Arm(1)
	c := d.Copy(g)
	if c == nil || f.Blown() || g.Blown() {
		t.Fatal("Copy burns a fuse")
	}
	mustSync(t, c)
	if e := c.Write(1, of('b')); e != api.ErrDead || !g.Blown() || f.Blown() {
		t.Fatalf("Write to the copy = %d, Blown = %t, that of the disk: %t", e, g.Blown(), f.Blown())
	}
	if _, e := c.Read(0); e != api.ErrDead {
		t.Errorf("Read of the copy = %d", e)
	}
	wantRead(t, d, 0, of('a'))
	mustWrite(t, d, 1, of('c'))
	if e := d.Sync(); e != api.ErrDead || !f.Blown() {
		t.Errorf("Sync of the disk = %d, Blown = %t", e, f.Blown())
	}
	g.Reset()
	mustWrite(t, c, 1, of('d'))
	wantDurable(t, c, 0, of('a'))
	wantDurable(t, d, 0, of(0))

	other := d.Copy(g)
	if other == nil {
		t.Fatal("no copy of a disk whose fuse has blown")
	}
	wantRead(t, other, 1, of('c'))
	if shared := c.Copy(f); shared == nil || shared.Sync() != api.ErrDead {
		t.Error("a copy does not burn the fuse that is given and has blown")
	}
}

func TestWhatIsRefusedChangesNothing(t *testing.T) { // P4.9, R5
	inEachState(t, func(t *testing.T, build func() pair) {
		p := build()
		for _, i := range []int{-1, 4, 5} {
			p.write(t, i, of('a'))
			p.write(t, i, "x")
		}
		for _, data := range []string{"", "x", of('a')[1:], of('a') + "a"} {
			p.write(t, 0, data)
		}
		p.look(t)
		p.d.Pending()
		p.look(t)
		p.arm(0)
		p.write(t, 0, of('a'))
		p.look(t)
		p.write(t, 1, of('b'))
		p.sync(t)
		p.look(t)
		p.reset()
		p.look(t)
	})
}

// contents returns all sectors, as they are read.
func contents(t *testing.T, d *Disk) []string {
	t.Helper()
	var list []string
	for i := range d.Sectors() {
		s, e := d.Read(i)
		if e != api.OK {
			t.Fatalf("Read(%d) = %d", i, e)
		}
		list = append(list, s)
	}
	return list
}

// choices are choices of many kinds, for a number of pending writes.
func choices(g *rand.Rand, writes int) []api.Choice {
	list := []api.Choice{{Torn: -1}, {Torn: 0}, {Keep: math.MaxUint64, Torn: -1}, {Keep: math.MaxUint64, Torn: 0, Bytes: -3}}
	for range 12 {
		list = append(list, api.Choice{Keep: g.Uint64(), Torn: g.IntN(writes+2) - 1, Bytes: g.IntN(400) - 200})
	}
	return list
}

// busy returns a disk with some sectors that are durable and some that are pending.
func busy(t *testing.T, g *rand.Rand) *Disk {
	t.Helper()
	d, _ := newDisk(t, 6)
	for n := range g.IntN(8) {
		mustWrite(t, d, g.IntN(6), striped(g.IntN(80)+n))
	}
	mustSync(t, d)
	for range g.IntN(20) {
		data := striped(g.IntN(80))
		if g.IntN(5) == 0 {
			data = of(0)
		}
		mustWrite(t, d, g.IntN(6), data)
	}
	return d
}

func generator() *rand.Rand {
	return rand.New(rand.NewPCG(4, 10))
}

func TestAfterSyncACrashLosesNothing(t *testing.T) { // P4.7
	g := generator()
	for range 100 {
		d := busy(t, g)
		want := contents(t, d)
		kept := copyOf(t, d)
		kept.Crash(api.Choice{Keep: math.MaxUint64, Torn: -1})
		if got := contents(t, kept); !slices.Equal(got, want) {
			t.Fatalf("all is kept: %q, want %q", got, want)
		}
		mustSync(t, d)
		for _, c := range choices(g, 20) {
			d.Crash(c)
			if got := contents(t, d); !slices.Equal(got, want) {
				t.Fatalf("crash %+v after Sync: %q, want %q", c, got, want)
			}
		}
	}
}

func TestACrashMixesWhatIsPending(t *testing.T) { // P4.8
	g := generator()
	for range 100 {
		d := busy(t, g)
		possible := make([][]string, d.Sectors())
		for i := range possible {
			possible[i] = []string{d.Durable(i)}
		}
		for _, w := range d.pending {
			possible[w.sector] = append(possible[w.sector], w.data)
		}
		for _, c := range choices(g, len(d.Pending())) {
			after := copyOf(t, d)
			after.Crash(c)
			for i, got := range contents(t, after) {
				if got != after.Durable(i) {
					t.Fatalf("Durable(%d) = %q, Read %q", i, after.Durable(i), got)
				}
				for k := range size {
					if !slices.ContainsFunc(possible[i], func(s string) bool { return s[k] == got[k] }) {
						t.Fatalf("crash %+v: byte %d of the sector %d is that of no write", c, k, i)
					}
				}
			}
		}
	}
}

func TestASecondCrashChangesNothing(t *testing.T) { // P4.10
	g := generator()
	for range 100 {
		d := busy(t, g)
		list := choices(g, len(d.Pending()))
		d.Crash(list[g.IntN(len(list))])
		want := contents(t, d)
		for _, c := range list {
			d.Crash(c)
			wantPending(t, d)
			if got := contents(t, d); !slices.Equal(got, want) {
				t.Fatalf("second crash %+v: %q, want %q", c, got, want)
			}
		}
	}
}

func TestTornWithNoBytesIsLost(t *testing.T) { // P4.10
	g := generator()
	for range 100 {
		d := busy(t, g)
		for i := range d.Pending() {
			keep := g.Uint64()
			lost := copyOf(t, d)
			lost.Crash(api.Choice{Keep: keep &^ (1 << i), Torn: -1})
			for _, bytes := range []int{0, 80, -80, 160} {
				torn := copyOf(t, d)
				torn.Crash(api.Choice{Keep: keep, Torn: i, Bytes: bytes})
				if got, want := contents(t, torn), contents(t, lost); !slices.Equal(got, want) {
					t.Fatalf("write %d torn with %d bytes: %q, want %q", i, bytes, got, want)
				}
			}
		}
	}
}

// only is what a choice says of some of the writes, by their numbers, when there are no others.
func only(c api.Choice, writes []int) api.Choice {
	out := api.Choice{Torn: -1, Bytes: c.Bytes}
	for n, i := range writes {
		if c.Keep&(1<<i) != 0 {
			out.Keep |= 1 << n
		}
		if c.Torn == i {
			out.Torn = n
		}
	}
	return out
}

func TestSectorsDoNotAffectEachOther(t *testing.T) { // P4.10
	g := generator()
	for range 100 {
		d := busy(t, g)
		for _, c := range choices(g, len(d.Pending())) {
			all := copyOf(t, d)
			all.Crash(c)
			for i := range d.Sectors() {
				alone, _ := newDisk(t, d.Sectors())
				mustWrite(t, alone, i, d.Durable(i))
				mustSync(t, alone)
				var numbers []int
				for n, w := range d.pending {
					if w.sector == i {
						numbers = append(numbers, n)
						mustWrite(t, alone, i, w.data)
					}
				}
				alone.Crash(only(c, numbers))
				wantDurable(t, alone, i, all.Durable(i))
			}
		}
	}
}

// randomly does something with a disk.
func randomly(t *testing.T, g *rand.Rand, p pair) string {
	n := len(p.want.durable)
	switch k := g.IntN(20); {
	case k < 10:
		i, data := g.IntN(n), striped(g.IntN(80))
		if g.IntN(6) == 0 {
			data = of(0)
		}
		p.write(t, i, data)
		return fmt.Sprintf("Write(%d, %x)", i, data[:1])
	case k < 12:
		i, bytes := g.IntN(n+4)-2, 78+g.IntN(5)
		p.write(t, i, strings.Repeat("q", bytes))
		return fmt.Sprintf("Write(%d, %d bytes)", i, bytes)
	case k < 14:
		p.sync(t)
		return "Sync"
	case k < 16:
		c := api.Choice{Keep: g.Uint64(), Torn: g.IntN(12) - 2, Bytes: g.IntN(500) - 250}
		p.crash(c)
		return fmt.Sprintf("Crash(%+v)", c)
	case k < 17:
		p.setFull(g.IntN(2) == 0)
		return "SetFull"
	case k < 18:
		number := g.IntN(9)
		p.arm(number)
		return fmt.Sprintf("Arm(%d)", number)
	}
	p.reset()
	return "Reset"
}

func TestRandomCalls(t *testing.T) { // P4.1 to P4.6, P4.9
	g := generator()
	for range 300 {
		p := newPair(t, 1+g.IntN(7))
		other := p.copy(t)
		var done []string
		t.Cleanup(func() {
			if t.Failed() {
				t.Log(strings.Join(done, "; "))
			}
		})
		for range 80 {
			if g.IntN(15) == 0 {
				other = p.copy(t)
				done = append(done, "Copy")
			}
			if g.IntN(3) == 0 {
				done = append(done, "of the copy "+randomly(t, g, other))
			} else {
				done = append(done, randomly(t, g, p))
			}
			p.look(t)
			other.look(t)
		}
	}
}
