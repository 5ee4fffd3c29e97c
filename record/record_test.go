package record

import (
	"fmt"
	"math"
	"math/rand/v2"
	"slices"
	"strings"
	"testing"
	"unsafe"

	"sacristan/api"
	"sacristan/disk"
	"sacristan/frame"
	"sacristan/fuse"
)

const (
	size = 80
	cut  = 44   // bytes of a piece
	most = 4096 // bytes of a record

	topBoot = 1<<32 - 1
	topLsn  = 1<<48 - 1
)

func generator() *rand.Rand {
	return rand.New(rand.NewPCG(6, 44))
}

func randomString(g *rand.Rand, n int) string {
	b := make([]byte, n)
	for i := range b {
		b[i] = byte(g.Uint32())
	}
	return string(b)
}

// text returns n bytes; equal bytes are far from each other.
func text(n int) string {
	b := make([]byte, n)
	for i := range b {
		b[i] = byte(i + i/251)
	}
	return string(b)
}

// lengths are numbers of bytes of records, those at which a piece ends among them.
func lengths() []int {
	return []int{0, 1, 2, 43, 44, 45, 46, 87, 88, 89, 131, 132, 133, 4047, 4048, 4049, 4091, 4092, 4093, 4095, 4096}
}

// split returns the pieces of data, found by taking away one after another.
func split(data string) []string {
	var list []string
	for len(data) > cut {
		list = append(list, data[:cut])
		data = data[cut:]
	}
	return append(list, data)
}

// seal returns the sector of a frame, which need not be one of a record.
func seal(t *testing.T, f api.Frame) string {
	t.Helper()
	s, e := frame.Encode(f)
	if e != api.OK {
		t.Fatalf("frame.Encode(%+v) = %d", f, e)
	}
	return s
}

// seals returns the sectors of frames that have the pieces as Data, and all else as in f.
func seals(t *testing.T, f api.Frame, pieces ...string) []string {
	t.Helper()
	var list []string
	for i, p := range pieces {
		f.Part, f.Parts, f.Data = i, len(pieces), p
		list = append(list, seal(t, f))
	}
	return list
}

// record is a record, as Read returns it, but that Parts need not be given.
type record = api.Frame

// lay returns the sectors of a record, also if it is too long, as the definition says.
func lay(t *testing.T, r record) []string {
	t.Helper()
	return seals(t, r, split(r.Data)...)
}

// whole returns the record as Read returns it.
func whole(r record) record {
	r.Part, r.Parts = 0, len(split(r.Data))
	return r
}

func zeros() string {
	return strings.Repeat("\x00", size)
}

func newDisk(t *testing.T, n int) (*disk.Disk, *fuse.Fuse) {
	t.Helper()
	f := fuse.New()
	d, e := disk.New(n, f)
	if e != api.OK {
		t.Fatalf("disk.New(%d) = %d", n, e)
	}
	return d, f
}

func put(t *testing.T, d *disk.Disk, at int, sectors ...string) {
	t.Helper()
	for i, s := range sectors {
		if e := d.Write(at+i, s); e != api.OK {
			t.Fatalf("Write(%d) = %d", at+i, e)
		}
	}
}

func sync(t *testing.T, d *disk.Disk) {
	t.Helper()
	if e := d.Sync(); e != api.OK {
		t.Fatalf("Sync = %d", e)
	}
}

// diskOf returns a disk that consists of these sectors.
func diskOf(t *testing.T, sectors ...string) *disk.Disk {
	t.Helper()
	d, _ := newDisk(t, len(sectors))
	put(t, d, 0, sectors...)
	return d
}

func wantRecord(t *testing.T, d *disk.Disk, at, end, lsn, boot int, want record) {
	t.Helper()
	if f, e := Read(d, at, end, lsn, boot); f != whole(want) || e != api.OK {
		t.Fatalf("Read(%d, %d, %d, %d) = %+v, %d, want %+v", at, end, lsn, boot, f, e, whole(want))
	}
}

func wantError(t *testing.T, d *disk.Disk, at, end, lsn, boot int, want api.Errno) {
	t.Helper()
	if f, e := Read(d, at, end, lsn, boot); f != (api.Frame{}) || e != want {
		t.Fatalf("Read(%d, %d, %d, %d) = %+v, %d, want %d", at, end, lsn, boot, f, e, want)
	}
}

// wantNone checks that at the sector 0 of a disk with these sectors no record begins, with the numbers and boots that they have.
func wantNone(t *testing.T, what string, sectors ...string) {
	t.Helper()
	d := diskOf(t, sectors...)
	asked := map[[2]int]bool{}
	for _, s := range sectors {
		f, e := frame.Decode(s)
		for _, boot := range []int{0, 1, f.Boot} {
			if e != api.OK || asked[[2]int{f.Lsn, boot}] {
				continue
			}
			asked[[2]int{f.Lsn, boot}] = true
			if got, e := Read(d, 0, len(sectors), f.Lsn, boot); got != (api.Frame{}) || e != api.ErrBad {
				t.Fatalf("%s: Read with the number %d, boot %d = %+v, %d, want ErrBad", what, f.Lsn, boot, got, e)
			}
		}
	}
}

// expected is what Read returns of these sectors as the chapter says, if no disk is at fault.
func expected(sectors []string, at, end, lsn, boot int) (api.Frame, api.Errno) {
	if at < 0 || end < at || len(sectors) < end {
		return api.Frame{}, api.ErrRange
	}
	for n := 1; n <= 94 && at+n <= end; n++ {
		if r, ok := joined(sectors[at : at+n]); ok && r.Lsn == lsn && r.Boot >= boot {
			return r, api.OK
		}
	}
	return api.Frame{}, api.ErrBad
}

// joined returns the record that has exactly these sectors.
func joined(sectors []string) (record, bool) {
	var r record
	for i, s := range sectors {
		f, e := frame.Decode(s)
		if e != api.OK || f.Part != i || f.Parts != len(sectors) {
			return record{}, false
		}
		if i == 0 {
			r = f
			continue
		}
		if f.Boot != r.Boot || f.Lsn != r.Lsn || f.Kind != r.Kind || f.Data == "" {
			return record{}, false
		}
		if len(r.Data) != i*cut {
			return record{}, false
		}
		r.Data += f.Data
	}
	return r, len(r.Data) <= most
}

func TestExamples(t *testing.T) { // P6.1, P6.2, P6.3
	for _, x := range []struct {
		n, want int
		e       api.Errno
	}{{0, 1, api.OK}, {44, 1, api.OK}, {45, 2, api.OK}, {4096, 94, api.OK}, {4097, 0, api.ErrLong}, {-1, 0, api.ErrRange}} {
		if got, e := Parts(x.n); got != x.want || e != x.e {
			t.Errorf("Parts(%d) = %d, %d, want %d, %d", x.n, got, e, x.want, x.e)
		}
	}
	data := strings.Repeat("x", 50)
	list, e := Sectors(1, 5, 2, data)
	want := []string{
		seal(t, api.Frame{Boot: 1, Lsn: 5, Part: 0, Parts: 2, Kind: 2, Data: data[:44]}),
		seal(t, api.Frame{Boot: 1, Lsn: 5, Part: 1, Parts: 2, Kind: 2, Data: data[:6]}),
	}
	if e != api.OK || !slices.Equal(list, want) {
		t.Fatalf("Sectors = %q, %d, want %q", list, e, want)
	}
	d, _ := newDisk(t, 10)
	put(t, d, 3, list...)
	if f, e := Read(d, 3, 5, 5, 1); f != (api.Frame{Boot: 1, Lsn: 5, Part: 0, Parts: 2, Kind: 2, Data: data}) || e != api.OK {
		t.Errorf("Read(3, 5, 5, 1) = %+v, %d", f, e)
	}
	wantError(t, d, 3, 4, 5, 1, api.ErrBad)
	wantError(t, d, 4, 5, 5, 1, api.ErrBad)
	wantError(t, d, 3, 5, 6, 1, api.ErrBad)
	wantError(t, d, 3, 5, 5, 2, api.ErrBad)
	wantError(t, d, 5, 4, 1, 1, api.ErrRange)
	wantError(t, d, 0, 999, 1, 1, api.ErrRange)
}

func TestParts(t *testing.T) { // P6.1
	for n := range most + 1 {
		if got, e := Parts(n); got != len(split(text(n))) || e != api.OK {
			t.Errorf("Parts(%d) = %d, %d, want %d", n, got, e, len(split(text(n))))
		}
	}
	for _, n := range []int{4097, 4098, 4136, 4137, 1 << 16, 1 << 32, math.MaxInt - 43, math.MaxInt - 1, math.MaxInt} {
		if got, e := Parts(n); got != 0 || e != api.ErrLong {
			t.Errorf("Parts(%d) = %d, %d, want ErrLong", n, got, e)
		}
	}
	for _, n := range []int{-1, -2, -43, -44, -45, -4096, -4097, math.MinInt + 43, math.MinInt + 1, math.MinInt} {
		if got, e := Parts(n); got != 0 || e != api.ErrRange {
			t.Errorf("Parts(%d) = %d, %d, want ErrRange", n, got, e)
		}
	}
}

func wantSectors(t *testing.T, r record) {
	t.Helper()
	list, e := Sectors(r.Boot, r.Lsn, r.Kind, r.Data)
	if e != api.OK || !slices.Equal(list, lay(t, r)) {
		t.Fatalf("Sectors(%d, %d, %d, %d bytes) = %q, %d", r.Boot, r.Lsn, r.Kind, len(r.Data), list, e)
	}
	if parts, e := Parts(len(r.Data)); parts != len(list) || e != api.OK {
		t.Fatalf("%d sectors, but Parts(%d) = %d, %d", len(list), len(r.Data), parts, e)
	}
}

func TestSectorsAreTheDefinition(t *testing.T) { // P6.2
	for _, n := range lengths() {
		for _, boot := range []int{1, 2, 256, topBoot - 1, topBoot} {
			for _, lsn := range []int{1, 2, 65536, topBoot + 1, topLsn - 1, topLsn} {
				wantSectors(t, record{Boot: boot, Lsn: lsn, Kind: 1, Data: text(n)})
			}
		}
	}
	for k := range 256 {
		wantSectors(t, record{Boot: 3, Lsn: 4, Kind: uint8(k), Data: text(100)})
	}
	for n := range 300 {
		wantSectors(t, record{Boot: 3, Lsn: 4, Kind: 2, Data: text(n)})
	}
}

func TestSectorsOfAnyBytes(t *testing.T) { // P6.2: bytes that are no text, zeros, and runes that are cut
	g := generator()
	for _, data := range []string{
		"\x00", strings.Repeat("\x00", cut), strings.Repeat("\x00", 89), strings.Repeat("\x00", most), strings.Repeat("\xff", 45),
		strings.Repeat("日", 30), strings.Repeat("é", 44), "a" + strings.Repeat("é", 44), randomString(g, 88), randomString(g, most),
	} {
		wantSectors(t, record{Boot: 1, Lsn: 1, Kind: 2, Data: data})
	}
}

func TestSectorsRefuses(t *testing.T) { // P6.2, R2: the length comes before the numbers
	type pair struct{ boot, lsn int }
	bad := []pair{{0, 0}, {-1, -1}, {0, topLsn + 1}, {topBoot + 1, topLsn + 1}, {math.MinInt, math.MaxInt}}
	for _, boot := range []int{0, -1, math.MinInt, topBoot + 1, topBoot + 2, 1 << 33, topLsn, math.MaxInt} {
		bad = append(bad, pair{boot, 1}, pair{boot, topLsn})
	}
	for _, lsn := range []int{0, -1, math.MinInt, topLsn + 1, topLsn + 2, 1 << 49, math.MaxInt} {
		bad = append(bad, pair{1, lsn}, pair{topBoot, lsn})
	}
	good := []pair{{1, 1}, {topBoot, topLsn}}
	for _, p := range append(bad, good...) {
		for _, n := range []int{4097, 4098, 4136, 4137, 1 << 16} {
			if list, e := Sectors(p.boot, p.lsn, 2, text(n)); len(list) != 0 || e != api.ErrLong {
				t.Errorf("Sectors(%d, %d, %d bytes) = %q, %d, want ErrLong", p.boot, p.lsn, n, list, e)
			}
		}
	}
	for _, p := range bad {
		for _, n := range lengths() {
			if list, e := Sectors(p.boot, p.lsn, 2, text(n)); len(list) != 0 || e != api.ErrArg {
				t.Errorf("Sectors(%d, %d, %d bytes) = %q, %d, want ErrArg", p.boot, p.lsn, n, list, e)
			}
		}
	}
}

// outside are values of at and end that no disk of n sectors has.
func outside(n int) [][2]int {
	return [][2]int{
		{-1, 0}, {-1, n}, {-1, -1}, {0, -1}, {-2, -1}, {-1, -2}, {1, 0}, {n, n - 1}, {n - 1, n - 2}, {0, n + 1}, {n, n + 1}, {n + 1, n + 1},
		{n + 1, n}, {n + 1, n + 2}, {-1, n + 1}, {0, math.MaxInt}, {n, math.MaxInt}, {math.MaxInt, math.MaxInt}, {math.MaxInt, n},
		{math.MinInt, n}, {math.MinInt, math.MinInt}, {math.MinInt, math.MaxInt}, {math.MaxInt, math.MinInt}, {0, math.MinInt}, {65536, 65537},
	}
}

// sampleDisk has 8 sectors: zeros, a record in 1 to 3, one in 4, zeros in 5, and one in 6 and 7.
func sampleDisk(t *testing.T) (*disk.Disk, *fuse.Fuse) {
	t.Helper()
	d, f := newDisk(t, 8)
	put(t, d, 1, lay(t, record{Boot: 3, Lsn: 7, Kind: 2, Data: text(100)})...)
	put(t, d, 4, lay(t, record{Boot: 3, Lsn: 8, Kind: 2, Data: ""})...)
	put(t, d, 6, lay(t, record{Boot: 3, Lsn: 9, Kind: 1, Data: text(88)})...)
	return d, f
}

func TestReadOfNil(t *testing.T) { // P6.3: whatever else is at fault
	for _, p := range append(outside(8), [2]int{0, 0}, [2]int{0, 1}, [2]int{0, 8}) {
		for _, lsn := range []int{-1, 0, 1, math.MaxInt} {
			wantError(t, nil, p[0], p[1], lsn, 1, api.ErrNil)
		}
	}
}

func TestReadRefusesSectors(t *testing.T) { // P6.3: also if the fuse has blown
	d, f := sampleDisk(t)
	for range 2 {
		for _, p := range outside(8) {
			for _, lsn := range []int{0, 7, 9} {
				wantError(t, d, p[0], p[1], lsn, 3, api.ErrRange)
			}
		}
		f.Arm(0)
		f.Burn()
	}
	for _, n := range []int{1, 2, 65536} {
		d, _ := newDisk(t, n)
		for at := max(-2, n-3); at < n+3; at++ {
			for end := max(-2, n-3); end < n+3; end++ {
				want := api.ErrBad
				if at < 0 || at > end || end > n {
					want = api.ErrRange
				}
				wantError(t, d, at, end, 1, 1, want)
			}
		}
	}
}

func TestReadOfNoSector(t *testing.T) { // P6.3: at is end
	d, _ := sampleDisk(t)
	for at := range 9 {
		for _, lsn := range []int{-1, 0, 7, 8, 9} {
			wantError(t, d, at, at, lsn, 0, api.ErrBad)
		}
	}
}

func TestReadOfAnAgentThatCrashed(t *testing.T) { // P6.3: whatever is there
	d, f := sampleDisk(t)
	f.Arm(0)
	f.Burn()
	for at := range 9 {
		for end := at; end < 9; end++ {
			for _, lsn := range []int{-1, 0, 1, 7, 8, 9} {
				wantError(t, d, at, end, lsn, 3, api.ErrDead)
			}
		}
	}
	f.Reset()
	wantRecord(t, d, 1, 8, 7, 3, record{Boot: 3, Lsn: 7, Kind: 2, Data: text(100)})
}

func TestReadBurnsNoFuse(t *testing.T) { // P6.3, R5: it is no operation, and leaves the disk as it is
	d, f := sampleDisk(t)
	f.Arm(0)
	pending := d.Pending()
	for _, lsn := range []int{7, 8} {
		Read(d, 1, 8, lsn, 3)
		Read(d, 8, 8, lsn, 3)
		Read(d, -1, 8, lsn, 3)
	}
	wantRecord(t, d, 1, 8, 7, 3, record{Boot: 3, Lsn: 7, Kind: 2, Data: text(100)})
	if f.Blown() || !slices.Equal(d.Pending(), pending) {
		t.Errorf("after reading the fuse has blown: %t; pending are %v, want %v", f.Blown(), d.Pending(), pending)
	}
	if e := d.Sync(); e != api.ErrDead {
		t.Errorf("Sync = %d, want ErrDead: the fuse was armed with 0", e)
	}
}

func TestReadOfAFullDisk(t *testing.T) { // P6.3, S2: full says nothing about reads
	d, _ := sampleDisk(t)
	d.SetFull(true)
	wantRecord(t, d, 1, 8, 7, 3, record{Boot: 3, Lsn: 7, Kind: 2, Data: text(100)})
	wantError(t, d, 1, 8, 8, 3, api.ErrBad)
}

func TestReadReadsSectors(t *testing.T) { // P6.3, P6.4: at its own sector, and near it
	for _, n := range lengths() {
		r := record{Boot: 5, Lsn: 9, Kind: 2, Data: text(n)}
		list, _ := Sectors(r.Boot, r.Lsn, r.Kind, r.Data)
		const at = 3
		last := at + len(list)
		d, _ := newDisk(t, last+3)
		put(t, d, at, list...)
		for _, end := range []int{last, last + 1, last + 3} {
			for _, boot := range []int{5, 4, 1, 0, -1, math.MinInt} {
				wantRecord(t, d, at, end, 9, boot, r)
			}
			for _, boot := range []int{6, 7, topBoot, topBoot + 1, math.MaxInt} {
				wantError(t, d, at, end, 9, boot, api.ErrBad)
			}
			for _, lsn := range []int{8, 10, 1, 0, -1, 9 + 1<<48, 9 - 1<<48, 9 << 8, topLsn, math.MaxInt, math.MinInt} {
				wantError(t, d, at, end, lsn, 5, api.ErrBad)
				wantError(t, d, at, end, lsn, 0, api.ErrBad)
			}
			for near := range end + 1 {
				if near != at {
					wantError(t, d, near, end, 9, 1, api.ErrBad)
				}
			}
		}
		for end := at; end < last; end++ {
			wantError(t, d, at, end, 9, 5, api.ErrBad)
		}
	}
}

func TestReadOfNumbers(t *testing.T) { // P6.3, P6.4: the least and the greatest ones
	for _, boot := range []int{1, 2, 255, 256, 1 << 31, topBoot - 1, topBoot} {
		for _, lsn := range []int{1, 2, 255, 256, 1 << 32, 1 << 47, topLsn - 1, topLsn} {
			for _, kind := range []uint8{0, 1, 2, 255} {
				r := record{Boot: boot, Lsn: lsn, Kind: kind, Data: text(60)}
				d := diskOf(t, lay(t, r)...)
				wantRecord(t, d, 0, 2, lsn, boot, r)
				wantRecord(t, d, 0, 2, lsn, boot-1, r)
				wantError(t, d, 0, 2, lsn, boot+1, api.ErrBad)
				wantError(t, d, 0, 2, lsn+1, boot, api.ErrBad)
				wantError(t, d, 0, 2, lsn-1, boot, api.ErrBad)
			}
		}
	}
}

func TestReadSeesTheLatestWrite(t *testing.T) { // P6.3: as disk.Read returns the sectors, pending or not
	d, _ := newDisk(t, 4)
	old, next := record{Boot: 1, Lsn: 1, Kind: 2, Data: text(80)}, record{Boot: 2, Lsn: 1, Kind: 1, Data: text(90)}
	put(t, d, 0, lay(t, old)...)
	wantRecord(t, d, 0, 4, 1, 1, old)
	sync(t, d)
	wantRecord(t, d, 0, 4, 1, 1, old)
	for i, s := range lay(t, next) {
		put(t, d, i, s)
		if i < 2 {
			wantError(t, d, 0, 4, 1, 1, api.ErrBad)
		}
	}
	wantRecord(t, d, 0, 4, 1, 1, next)
	sync(t, d)
	wantRecord(t, d, 0, 4, 1, 2, next)
	put(t, d, 2, zeros())
	wantError(t, d, 0, 4, 1, 1, api.ErrBad)
}

// few are records of one sector and more, with a last piece that is empty, short and full.
func few() []record {
	var list []record
	for _, n := range []int{0, 7, 44, 45, 88, 89, 132, 150} {
		list = append(list, record{Boot: 4, Lsn: 6, Kind: 2, Data: text(n)})
	}
	return list
}

func TestReadWithoutASector(t *testing.T) { // P6.3: one is missing, at its place or so that the others move up
	for _, r := range few() {
		list := lay(t, r)
		for i := range list {
			other := slices.Clone(list)
			other[i] = zeros()
			wantNone(t, "zeros in a sector", other...)
			if len(list) > 1 {
				wantNone(t, "without a sector", slices.Delete(slices.Clone(list), i, i+1)...)
			}
		}
	}
}

// strangers are records that differ from r in one respect each.
func strangers(r record) map[string]record {
	with := func(change func(*record)) record {
		other := r
		change(&other)
		return other
	}
	list := map[string]record{
		"a greater boot":   with(func(o *record) { o.Boot++ }),
		"a lesser boot":    with(func(o *record) { o.Boot-- }),
		"a greater number": with(func(o *record) { o.Lsn++ }),
		"a lesser number":  with(func(o *record) { o.Lsn-- }),
		"another kind":     with(func(o *record) { o.Kind++ }),
		"one more piece":   with(func(o *record) { o.Data = text(len(o.Data) + cut) }),
		"many more pieces": with(func(o *record) { o.Data = text(len(o.Data) + 10*cut) }),
	}
	if len(r.Data) > cut {
		list["one piece less"] = with(func(o *record) { o.Data = text(len(o.Data) - cut) })
	}
	return list
}

func TestReadWithAnothersSector(t *testing.T) { // P6.3: in each place, alone and with all that come after it
	for _, r := range few() {
		list := lay(t, r)
		if len(list) == 1 {
			continue
		}
		for name, other := range strangers(r) {
			others := lay(t, other)
			if len(others) == 1 {
				continue // It is a record, whatever comes after it.
			}
			for i := range min(len(list), len(others)) {
				mixed := slices.Clone(list)
				mixed[i] = others[i]
				wantNone(t, name, mixed...)
				if i > 0 {
					wantNone(t, name+" from there on", slices.Concat(list[:i], others[i:])...)
				}
			}
		}
	}
}

func TestReadWithSectorsMixed(t *testing.T) { // P6.3: each place has a sector of one of several records
	records := []record{
		{Boot: 4, Lsn: 6, Kind: 2, Data: text(120)},
		{Boot: 4, Lsn: 7, Kind: 2, Data: text(120)},
		{Boot: 5, Lsn: 6, Kind: 2, Data: text(121)},
		{Boot: 4, Lsn: 6, Kind: 1, Data: text(130)},
		{Boot: 5, Lsn: 7, Kind: 2, Data: text(150)},
	}
	var lists [][]string
	for _, r := range records {
		lists = append(lists, lay(t, r))
	}
	for a := range records {
		for b := range records {
			for c := range records {
				d := diskOf(t, lists[a][0], lists[b][1], lists[c][2])
				for _, r := range records {
					if a == b && b == c && r.Lsn == records[a].Lsn && len(lists[a]) == 3 {
						wantRecord(t, d, 0, 3, r.Lsn, 1, records[a])
						continue
					}
					wantError(t, d, 0, 3, r.Lsn, 1, api.ErrBad)
				}
			}
		}
	}
}

func TestReadOfTwoPartsOfOneName(t *testing.T) { // P6.3: pieces of two records with the same numbers and lengths are told by nothing
	a, b := record{Boot: 1, Lsn: 1, Kind: 2, Data: strings.Repeat("a", 60)}, record{Boot: 1, Lsn: 1, Kind: 2, Data: strings.Repeat("b", 60)}
	d := diskOf(t, lay(t, a)[0], lay(t, b)[1])
	wantRecord(t, d, 0, 2, 1, 1, record{Boot: 1, Lsn: 1, Kind: 2, Data: a.Data[:44] + b.Data[:16]})
}

func TestReadWithSectorsInAnotherOrder(t *testing.T) { // P6.3
	list := lay(t, record{Boot: 4, Lsn: 6, Kind: 2, Data: text(150)})
	for i := range list {
		for j := range list {
			if i == j {
				continue
			}
			other := slices.Clone(list)
			other[i], other[j] = other[j], other[i]
			wantNone(t, "two sectors exchanged", other...)
			other = slices.Clone(list)
			other[i] = other[j]
			wantNone(t, "a sector twice", other...)
		}
	}
}

func TestReadWithAChangedByte(t *testing.T) { // P6.3: each byte of each sector
	for _, r := range few() {
		list := lay(t, r)
		d := diskOf(t, list...)
		for i, s := range list {
			for k := range size {
				for _, change := range []byte{1, 2, 128, 255} {
					b := []byte(s)
					b[k] ^= change
					put(t, d, i, string(b))
					wantError(t, d, 0, len(list), r.Lsn, 1, api.ErrBad)
				}
			}
			put(t, d, i, s)
			sync(t, d)
			wantRecord(t, d, 0, len(list), r.Lsn, r.Boot, r)
		}
	}
}

func TestReadRefusesPieces(t *testing.T) { // P6.3: frames that are valid, but not those of a record
	f := api.Frame{Boot: 2, Lsn: 3, Kind: 2}
	full := text(cut)
	for n := range cut {
		short := text(n)
		for name, pieces := range map[string][]string{
			"first of two":   {short, "ab"},
			"first, full":    {short, full},
			"first of three": {short, full, full},
			"second":         {full, short, full},
			"both":           {short, short},
			"last but one":   {full, full, full, short, "ab"},
		} {
			wantNone(t, fmt.Sprintf("%s with %d bytes", name, n), seals(t, f, pieces...)...)
		}
	}
	wantNone(t, "an empty last piece of two", seals(t, f, full, "")...)
	wantNone(t, "an empty last piece of three", seals(t, f, full, full, "")...)
	wantNone(t, "two empty pieces", seals(t, f, "", "")...)
	wantNone(t, "two empty last pieces", seals(t, f, full, "", "")...)
	wantNone(t, "an empty first piece", seals(t, f, "", full)...)
	// Pieces that together have as many bytes as these sectors could.
	wantNone(t, "43 and 2 bytes", seals(t, f, text(43), "ab")...)
	wantNone(t, "43, 44 and 2 bytes", seals(t, f, text(43), full, "ab")...)
}

func TestReadOfTheLongestRecords(t *testing.T) { // P6.3: from 4,093 bytes on in the last of 94 sectors, and in more sectors
	f := api.Frame{Boot: 2, Lsn: 3, Kind: 2}
	for n := most - 4; n <= 95*cut; n++ {
		r := record{Boot: 2, Lsn: 3, Kind: 2, Data: text(n)}
		list := lay(t, r)
		if n > most {
			wantNone(t, fmt.Sprintf("%d bytes", n), list...)
			continue
		}
		wantRecord(t, diskOf(t, list...), 0, len(list), 3, 2, r)
	}
	full := slices.Repeat([]string{text(cut)}, 255)
	for n := 95; n <= 255; n++ {
		wantNone(t, "too many sectors", seals(t, f, full[:n]...)...)
		wantNone(t, "too many sectors, the last one empty", seals(t, f, append(slices.Clone(full[:n-1]), "")...)...)
	}
	wantNone(t, "94 sectors, the last one empty", seals(t, f, append(slices.Clone(full[:93]), "")...)...)
	wantNone(t, "94 sectors, the first one empty", seals(t, f, append([]string{""}, full[:93]...)...)...)
	wantNone(t, "255 empty sectors", seals(t, f, make([]string, 255)...)...)
}

// partOf returns the sector of a full piece.
func partOf(t *testing.T, part, parts int) string {
	t.Helper()
	return seal(t, api.Frame{Boot: 2, Lsn: 3, Part: part, Parts: parts, Kind: 2, Data: text(cut)})
}

func TestReadRefusesOtherParts(t *testing.T) { // P6.3: Part and Parts that do not fit the sectors that are there
	for parts := 2; parts <= 5; parts++ {
		var list []string
		for part := range parts {
			list = append(list, partOf(t, part, parts))
		}
		for i := range parts {
			for _, other := range []int{2, 3, 4, 5, 6, 94, 255} {
				if other != parts && i < other {
					mixed := slices.Clone(list)
					mixed[i] = partOf(t, i, other)
					wantNone(t, fmt.Sprintf("Parts %d in the part %d of %d", other, i, parts), mixed...)
				}
			}
			for part := range parts {
				if part != i {
					mixed := slices.Clone(list)
					mixed[i] = partOf(t, part, parts)
					wantNone(t, fmt.Sprintf("the part %d in place of %d of %d", part, i, parts), mixed...)
				}
			}
		}
		wantNone(t, "parts from 1 on", append(list[1:], zeros())...)
		wantNone(t, "the last part alone", list[parts-1])
	}
	// A record of one sector is there, whatever comes after it.
	d := diskOf(t, partOf(t, 0, 1), partOf(t, 1, 3), partOf(t, 2, 3))
	wantRecord(t, d, 0, 3, 3, 2, record{Boot: 2, Lsn: 3, Kind: 2, Data: text(cut)})
}

// crashes are all choices for n pending writes: each write lost or kept, and none or one torn after each number of bytes.
func crashes(n int, visit func(api.Choice)) {
	for keep := range uint64(1) << n {
		visit(api.Choice{Keep: keep, Torn: -1})
		for torn := range n {
			for bytes := range size {
				visit(api.Choice{Keep: keep, Torn: torn, Bytes: bytes})
			}
		}
	}
}

// wantTorn writes a record over sectors, and checks what may be read after each crash.
func wantTorn(t *testing.T, what string, under []string, r record) {
	t.Helper()
	d, _ := newDisk(t, len(under))
	put(t, d, 0, under...)
	sync(t, d)
	list := lay(t, r)
	put(t, d, 0, list...)
	there := 0
	crashes(len(list), func(c api.Choice) {
		d := d.Copy(fuse.New())
		d.Crash(c)
		kept := true
		for i, s := range list {
			kept = kept && d.Durable(i) == s
		}
		f, e := Read(d, 0, len(under), r.Lsn, r.Boot)
		if kept {
			there++
			if f != whole(r) || e != api.OK {
				t.Fatalf("%s, after the crash %+v: %+v, %d, want %+v", what, c, f, e, whole(r))
			}
			return
		}
		if f != (api.Frame{}) || e != api.ErrBad {
			t.Fatalf("%s, after the crash %+v: %+v, %d, want ErrBad", what, c, f, e)
		}
	})
	if there == 0 {
		t.Errorf("%s: no crash left the record", what)
	}
}

func TestTornOverZeros(t *testing.T) { // P6.5
	for _, n := range []int{0, 1, 44, 45, 88, 89, 132, 133} {
		r := record{Boot: 4, Lsn: 6, Kind: 2, Data: text(n)}
		wantTorn(t, fmt.Sprintf("%d bytes over zeros", n), slices.Repeat([]string{zeros()}, 6), r)
		r.Data = strings.Repeat("\x00", n)
		wantTorn(t, fmt.Sprintf("%d zeros over zeros", n), slices.Repeat([]string{zeros()}, 6), r)
	}
}

func TestTornOverRecords(t *testing.T) { // P6.5: with a lesser boot or number, and the same data or other data
	for _, n := range []int{0, 44, 60, 100, 132} {
		r := record{Boot: 4, Lsn: 6, Kind: 2, Data: text(n)}
		for _, name := range [][2]int{{4, 5}, {4, 1}, {3, 6}, {3, 5}, {3, 7}, {1, 260}, {3, topLsn}, {5, 5}, {260, 4}, {topBoot, 1}} {
			for _, m := range []int{0, 44, 60, 100, 132, 200} {
				old := record{Boot: name[0], Lsn: name[1], Kind: 2, Data: text(m)}
				under := append(lay(t, old), lay(t, record{Boot: old.Boot, Lsn: old.Lsn, Kind: 2, Data: "more"})...)
				for len(under) < 4 {
					under = append(under, zeros())
				}
				wantTorn(t, fmt.Sprintf("%d bytes over boot %d, number %d, %d bytes", n, old.Boot, old.Lsn, m), under, r)
			}
		}
	}
}

func TestTornOverRecordsThatLieOtherwise(t *testing.T) { // P6.5: the parts of the old records are not those of the new one
	r := record{Boot: 4, Lsn: 6, Kind: 2, Data: text(130)}
	for shift := range 4 {
		for _, boot := range []int{3, 4} {
			var under []string
			for lsn := range 5 {
				under = append(under, lay(t, record{Boot: boot, Lsn: lsn + 1, Kind: 2, Data: text(60 + 30*lsn)})...)
			}
			wantTorn(t, fmt.Sprintf("shifted by %d, over boot %d", shift, boot), under[shift:], r)
		}
	}
}

func TestTornWritesShowWhatWasThere(t *testing.T) { // P6.5: the record below, with its own number and boot, or nothing
	old, r := record{Boot: 3, Lsn: 6, Kind: 2, Data: text(60)}, record{Boot: 4, Lsn: 6, Kind: 2, Data: text(70)}
	d := diskOf(t, lay(t, old)...)
	sync(t, d)
	put(t, d, 0, lay(t, r)...)
	crashes(2, func(c api.Choice) {
		d := d.Copy(fuse.New())
		d.Crash(c)
		want, e := expected([]string{d.Durable(0), d.Durable(1)}, 0, 2, 6, 3)
		if e == api.OK && want != whole(old) && want != whole(r) {
			t.Fatalf("after the crash %+v there is %+v", c, want)
		}
		if got, ge := Read(d, 0, 2, 6, 3); got != want || ge != e {
			t.Fatalf("after the crash %+v: %+v, %d, want %+v, %d", c, got, ge, want, e)
		}
	})
}

// garden returns n sectors: parts of records that differ a little, frames of no record, spoiled sectors, and zeros.
func garden(t *testing.T, g *rand.Rand, n int) []string {
	t.Helper()
	var list []string
	for len(list) < n {
		r := record{Boot: 1 + g.IntN(2), Lsn: 1 + g.IntN(3), Kind: uint8(1 + g.IntN(10)/9), Data: randomString(g, g.IntN(4)*22+g.IntN(60))}
		sectors := lay(t, r)
		switch g.IntN(8) {
		case 0:
			i := g.IntN(len(sectors))
			b := []byte(sectors[i])
			b[g.IntN(size)] ^= byte(1 + g.IntN(255))
			sectors[i] = string(b)
		case 1:
			sectors = sectors[g.IntN(len(sectors)):]
		case 2:
			sectors = sectors[:g.IntN(len(sectors))]
		case 3:
			pieces := split(r.Data)
			i := g.IntN(len(pieces))
			pieces[i] = pieces[i][:g.IntN(len(pieces[i])+1)]
			sectors = seals(t, r, pieces...)
		case 4:
			sectors = []string{zeros()}
		}
		list = append(list, sectors...)
	}
	return list[:n]
}

func TestReadIsTheDefinition(t *testing.T) { // P6.3
	g := generator()
	found, none := 0, 0
	for range 200 {
		list := garden(t, g, 12)
		d := diskOf(t, list...)
		for range 1000 {
			at, lsn, boot := g.IntN(13), g.IntN(5), g.IntN(4)
			end := min(at+g.IntN(9), 13)
			want, e := expected(list, at, end, lsn, boot)
			if got, ge := Read(d, at, end, lsn, boot); got != want || ge != e {
				t.Fatalf("Read(%d, %d, %d, %d) = %+v, %d, want %+v, %d", at, end, lsn, boot, got, ge, want, e)
			}
			switch e {
			case api.OK:
				found++
			case api.ErrBad:
				none++
			}
		}
	}
	if found < 2000 || none < 2000 {
		t.Errorf("%d records and %d times none: the sectors are badly chosen", found, none)
	}
}

func TestReadDependsOnItsSectorsAlone(t *testing.T) { // P6.6: whatever is before at, and from end on
	g := generator()
	const n = 12
	for range 60 {
		list := garden(t, g, n)
		d := diskOf(t, list...)
		for range 30 {
			at := g.IntN(n)
			end := at + g.IntN(n-at+1)
			var others []*disk.Disk
			for _, around := range [][]string{garden(t, g, n), slices.Repeat([]string{zeros()}, n), slices.Repeat(list[at:at+1], n)} {
				copy(around[at:end], list[at:end])
				others = append(others, diskOf(t, around...), diskOf(t, around[:max(1, end)]...))
			}
			for lsn := range 5 {
				want, e := Read(d, at, end, lsn, 1)
				for _, o := range others {
					if got, ge := Read(o, at, end, lsn, 1); got != want || ge != e {
						t.Fatalf("Read(%d, %d, %d, 1) = %+v, %d, with other sectors around %+v, %d", at, end, lsn, want, e, got, ge)
					}
				}
			}
		}
	}
}

func TestReadWithRecordsAround(t *testing.T) { // P6.6: the same record before and behind, and its parts
	r := record{Boot: 4, Lsn: 6, Kind: 2, Data: text(100)}
	list := lay(t, r)
	d := diskOf(t, slices.Concat(list, list, list)...)
	for at := range 10 {
		for end := at; end <= 9; end++ {
			if at%3 == 0 && end >= at+3 {
				wantRecord(t, d, at, end, 6, 4, r)
				continue
			}
			wantError(t, d, at, end, 6, 4, api.ErrBad)
		}
	}
}

func TestReadMovesWithItsSectors(t *testing.T) { // P6.6: where they lie on the disk does not matter
	r := record{Boot: 4, Lsn: 6, Kind: 2, Data: text(100)}
	d, _ := newDisk(t, 65536)
	for _, at := range []int{0, 1, 255, 256, 32768, 65533} {
		put(t, d, at, lay(t, r)...)
		wantRecord(t, d, at, at+3, 6, 4, r)
		wantRecord(t, d, at, 65536, 6, 4, r)
		wantError(t, d, at, at+2, 6, 4, api.ErrBad)
	}
}

func TestOneRecordABoot(t *testing.T) { // P6.6: whatever number and boot is asked for, there is one record at a sector
	g := generator()
	for range 100 {
		list := garden(t, g, 8)
		d := diskOf(t, list...)
		for at := range list {
			var seen []api.Frame
			for lsn := range 5 {
				for boot := range 4 {
					for end := at; end <= len(list); end++ {
						if f, e := Read(d, at, end, lsn, boot); e == api.OK && !slices.Contains(seen, f) {
							seen = append(seen, f)
						}
					}
				}
			}
			if len(seen) > 1 {
				t.Fatalf("at %d there are %+v", at, seen)
			}
		}
	}
}

// wantChain reads one record after another, each with a boot that is not less than that of the one before, until there is none.
func wantChain(t *testing.T, d *disk.Disk, at, end int, records []record) {
	t.Helper()
	lsn, boot := records[0].Lsn, 1
	for _, r := range records {
		wantRecord(t, d, at, end, lsn, boot, r)
		f, _ := Read(d, at, end, lsn, boot)
		at, lsn, boot = at+f.Parts, f.Lsn+1, f.Boot
	}
	wantError(t, d, at, end, lsn, boot, api.ErrBad)
}

func TestRecordsOneAfterAnother(t *testing.T) { // P6.7
	g := generator()
	for range 50 {
		const start = 4
		lsn := 1 + g.IntN(1000)
		var under []string
		for range 60 {
			// Older records lie below, with numbers that are asked for, too, but lesser boots.
			under = append(under, lay(t, record{Boot: 1 + g.IntN(2), Lsn: lsn + g.IntN(20), Kind: 2, Data: text(g.IntN(cut + 1))})...)
		}
		d := diskOf(t, under...)
		sync(t, d)
		at, boot := start, 3
		var records []record
		for len(records) < 15 {
			r := record{Boot: boot, Lsn: lsn + len(records), Kind: uint8(1 + g.IntN(2)), Data: randomString(g, g.IntN(120))}
			list, e := Sectors(r.Boot, r.Lsn, r.Kind, r.Data)
			if e != api.OK {
				t.Fatalf("Sectors(%+v) = %d", r, e)
			}
			put(t, d, at, list...)
			at += len(list)
			records = append(records, r)
			wantChain(t, d, start, 60, records)
			wantChain(t, d, start, at, records)
			boot += g.IntN(3) / 2
		}
		// One more that a crash loses, cuts or keeps.
		sync(t, d)
		next := record{Boot: boot, Lsn: lsn + len(records), Kind: 2, Data: randomString(g, 50)}
		put(t, d, at, lay(t, next)...)
		for _, c := range []api.Choice{{Torn: -1}, {Keep: 1, Torn: -1}, {Keep: 2, Torn: -1}, {Keep: 3, Torn: 0, Bytes: 70}, {Keep: 3, Torn: 1, Bytes: 79}} {
			d := d.Copy(fuse.New())
			d.Crash(c)
			wantChain(t, d, start, 60, records)
		}
		d.Crash(api.Choice{Keep: 3, Torn: -1})
		wantChain(t, d, start, 60, append(records, next))
	}
}

func TestRecordsWithLesserBoots(t *testing.T) { // P6.7: a record of an older boot behind the end is not found
	d, _ := newDisk(t, 6)
	records := []record{{Boot: 3, Lsn: 1, Kind: 2, Data: "a"}, {Boot: 4, Lsn: 2, Kind: 2, Data: text(50)}}
	put(t, d, 0, lay(t, records[0])...)
	put(t, d, 1, lay(t, records[1])...)
	put(t, d, 3, lay(t, record{Boot: 3, Lsn: 3, Kind: 2, Data: "c"})...)
	wantChain(t, d, 0, 6, records)
	next := record{Boot: 4, Lsn: 3, Kind: 2, Data: "d"}
	put(t, d, 3, lay(t, next)...)
	wantChain(t, d, 0, 6, append(records, next))
	put(t, d, 4, lay(t, record{Boot: 4, Lsn: 5, Kind: 2, Data: "e"})...)
	wantChain(t, d, 0, 6, append(records, next))
}

// lent returns a string whose bytes are those of b, and change with them.
func lent(b []byte) string {
	return unsafe.String(unsafe.SliceData(b), len(b))
}

func TestSectorsShareNoMemory(t *testing.T) { // R3
	for _, n := range []int{1, 44, 45, 200} {
		b := []byte(text(n))
		r := record{Boot: 1, Lsn: 2, Kind: 2, Data: text(n)}
		first, _ := Sectors(1, 2, 2, lent(b))
		if string(b) != r.Data {
			t.Errorf("Sectors changed its argument to %q", b)
		}
		clear(b)
		if !slices.Equal(first, lay(t, r)) {
			t.Errorf("the sectors of %d bytes change with the argument", n)
		}
		second, _ := Sectors(1, 2, 2, r.Data)
		clear(first[:cap(first)])
		if !slices.Equal(second, lay(t, r)) {
			t.Errorf("the sectors of %d bytes change with those of an earlier call", n)
		}
		_ = append(second[:0], "x")
		wantSectors(t, r)
	}
}

func TestReadSharesNoMemory(t *testing.T) { // R3: with the sectors that the disk keeps, and with other results
	for _, r := range few() {
		var kept [][]byte
		d, _ := newDisk(t, 5)
		for i, s := range lay(t, r) {
			kept = append(kept, []byte(s))
			put(t, d, i, lent(kept[i]))
		}
		first, _ := Read(d, 0, 5, r.Lsn, r.Boot)
		second, _ := Read(d, 0, 5, r.Lsn, r.Boot)
		for i, s := range lay(t, r) {
			if string(kept[i]) != s {
				t.Errorf("Read changed the sector %d", i)
			}
			clear(kept[i])
		}
		if first != whole(r) || second != first {
			t.Errorf("a record of %d bytes that was read changes with the disk: %+v", len(r.Data), first)
		}
		if n := len(r.Data); n > 1 && unsafe.StringData(first.Data) == unsafe.StringData(second.Data) {
			t.Errorf("two results of %d bytes share memory", n)
		}
	}
}

func TestPiecesCannotGrow(t *testing.T) { // the section Ways: what is appended to a piece does not change the next one
	for _, n := range lengths() {
		var list []string
		for part, piece := range pieces(text(n)) {
			if part != len(list) {
				t.Fatalf("the piece %d of %d bytes is numbered %d", len(list), n, part)
			}
			list = append(list, string(piece))
			_ = append(piece, "overwritten"...)
		}
		if !slices.Equal(list, split(text(n))) {
			t.Errorf("the pieces of %d bytes are %q", n, list)
		}
		for range pieces(text(n)) {
			break
		}
	}
}

func TestCallsKeepNothing(t *testing.T) { // R6
	d, _ := sampleDisk(t)
	type result struct {
		f api.Frame
		e api.Errno
	}
	var first []result
	for range 2 {
		var list []result
		for at := range 9 {
			for lsn := range 10 {
				f, e := Read(d, at, 8, lsn, 1)
				list = append(list, result{f, e})
				Sectors(1+at, 1+lsn, 2, text(at*20))
				Parts(at * 1000)
			}
		}
		if first == nil {
			first = list
		}
		if !slices.Equal(list, first) {
			t.Error("the same calls have other results")
		}
	}
}
