package slots

import (
	"encoding/binary"
	"fmt"
	"hash/crc32"
	"math"
	"math/rand/v2"
	"slices"
	"strings"
	"testing"
	"unsafe"

	"sacristan/api"
	"sacristan/disk"
	"sacristan/fuse"
)

const (
	size = 80

	topSeq   = 1<<48 - 1
	topBoot  = 1<<32 - 1
	topFirst = 1<<48 - 1
	topSnaps = 65535
)

func generator() *rand.Rand {
	return rand.New(rand.NewPCG(7, 2))
}

func zeroSector() string {
	return strings.Repeat("\x00", size)
}

// good reports whether a header is valid, as the definition says.
func good(h api.Head) bool {
	return h.Seq >= 1 && h.Seq <= topSeq && h.First >= 1 && h.First <= topFirst &&
		h.Boot >= 1 && h.Boot <= topBoot && (h.Area == 0 || h.Area == 1) && h.Snaps >= 0 && h.Snaps <= topSnaps
}

// lay returns the sector of a header, made by the table of the definition without crc and pack.
func lay(h api.Head) string {
	var b [size]byte
	var wide [8]byte
	binary.BigEndian.PutUint64(wide[:], uint64(h.Seq))
	copy(b[0:6], wide[2:])
	copy(b[74:80], wide[2:])
	binary.BigEndian.PutUint32(b[6:10], uint32(h.Boot))
	b[10] = byte(h.Area)
	binary.BigEndian.PutUint64(wide[:], uint64(h.First))
	copy(b[11:17], wide[2:])
	binary.BigEndian.PutUint16(b[17:19], uint16(h.Snaps))
	binary.BigEndian.PutUint32(b[19:23], crc32.ChecksumIEEE(b[:19]))
	return string(b[:])
}

// seal returns a sector with these bytes 0 to 18 and 74 to 79, whose checksum is right.
func seal(fields, end string) string {
	b := []byte(zeroSector())
	copy(b, fields[:19])
	binary.BigEndian.PutUint32(b[19:23], crc32.ChecksumIEEE(b[:19]))
	copy(b[74:], end[:6])
	return string(b)
}

// numbers are some of the values that a field may have, the least and the greatest among them, and some outside.
func numbers(least, greatest int) (in, out []int) {
	in = []int{least, least + 1, greatest / 3, greatest - 1, greatest}
	out = []int{least - 1, least - 2, greatest + 1, greatest + 2, 2*greatest + 1, 2*greatest + 2, math.MinInt, math.MaxInt, -greatest, 1 << 62}
	return in, out
}

// field is one of a header, with its bounds.
type field struct {
	name            string
	least, greatest int
	at              func(*api.Head) *int
}

func fieldList() []field {
	return []field{
		{"Seq", 1, topSeq, func(h *api.Head) *int { return &h.Seq }},
		{"Boot", 1, topBoot, func(h *api.Head) *int { return &h.Boot }},
		{"Area", 0, 1, func(h *api.Head) *int { return &h.Area }},
		{"First", 1, topFirst, func(h *api.Head) *int { return &h.First }},
		{"Snaps", 0, topSnaps, func(h *api.Head) *int { return &h.Snaps }},
	}
}

// sample are valid headers with all combinations of least and greatest values, and others.
func sample() []api.Head {
	list := []api.Head{{Seq: 3, Boot: 4, Area: 1, First: 5, Snaps: 6}, {Seq: 0x010203040506, Boot: 0x0708090a, Area: 1, First: 0x0b0c0d0e0f10, Snaps: 0x1112}}
	for i := range 32 {
		h := api.Head{}
		for k, f := range fieldList() {
			*f.at(&h) = f.least
			if i>>k&1 == 1 {
				*f.at(&h) = f.greatest
			}
		}
		list = append(list, h)
	}
	return list
}

// randomHead returns a valid header.
func randomHead(g *rand.Rand) api.Head {
	var h api.Head
	for _, f := range fieldList() {
		bits := uint(1 + g.IntN(48))
		*f.at(&h) = f.least + g.IntN(min(1<<bits, f.greatest-f.least+1))
	}
	return h
}

func newDisk(t *testing.T, n int) (*disk.Disk, *fuse.Fuse) {
	t.Helper()
	f := fuse.New()
	d, e := disk.New(n, f)
	if e != api.OK {
		t.Fatalf("disk.New(%d) = %d", n, e)
	}
	return d, f
}

func put(t *testing.T, d *disk.Disk, at int, sectors ...string) {
	t.Helper()
	for i, s := range sectors {
		if e := d.Write(at+i, s); e != api.OK {
			t.Fatalf("Write(%d) = %d", at+i, e)
		}
	}
}

// diskOf returns a disk that consists of these sectors, durably.
func diskOf(t *testing.T, sectors ...string) (*disk.Disk, *fuse.Fuse) {
	t.Helper()
	d, f := newDisk(t, len(sectors))
	put(t, d, 0, sectors...)
	if e := d.Sync(); e != api.OK {
		t.Fatalf("Sync = %d", e)
	}
	return d, f
}

func blow(t *testing.T, f *fuse.Fuse) {
	t.Helper()
	f.Arm(0)
	f.Burn()
	if !f.Blown() {
		t.Fatal("the fuse has not blown")
	}
}

func wantEncode(t *testing.T, h api.Head) {
	t.Helper()
	want, we := lay(h), api.OK
	if !good(h) {
		want, we = "", api.ErrArg
	}
	if s, e := Encode(h); s != want || e != we {
		t.Errorf("Encode(%+v) = %q, %d, want %q, %d", h, s, e, want, we)
	}
}

func wantDecode(t *testing.T, s string, want api.Head) {
	t.Helper()
	if h, e := Decode(s); h != want || e != api.OK {
		t.Errorf("Decode(%q) = %+v, %d, want %+v", s, h, e, want)
	}
}

func wantBad(t *testing.T, s string) {
	t.Helper()
	if h, e := Decode(s); h != (api.Head{}) || e != api.ErrBad {
		t.Errorf("Decode(%q) = %+v, %d, want ErrBad", s, h, e)
	}
}

func wantLoad(t *testing.T, what string, d *disk.Disk, want api.Head) {
	t.Helper()
	if h, e := Load(d); h != want || e != api.OK {
		t.Fatalf("%s: Load = %+v, %d, want %+v", what, h, e, want)
	}
}

func wantLoadError(t *testing.T, what string, d *disk.Disk, want api.Errno) {
	t.Helper()
	if h, e := Load(d); h != (api.Head{}) || e != want {
		t.Fatalf("%s: Load = %+v, %d, want %d", what, h, e, want)
	}
}

func wantSave(t *testing.T, d *disk.Disk, h api.Head, want api.Errno) {
	t.Helper()
	if e := Save(d, h); e != want {
		t.Fatalf("Save(%+v) = %d, want %d", h, e, want)
	}
}

func TestExamples(t *testing.T) { // P7.1, P7.2, P7.3
	d, f := newDisk(t, 2)
	wantLoadError(t, "a new disk", d, api.ErrNone)
	first := api.Head{Seq: 1, Boot: 1, Area: 0, First: 1, Snaps: 0}
	wantSave(t, d, first, api.OK)
	wantLoad(t, "after Save", d, first)
	if len(d.Pending()) != 0 || d.Durable(1) != lay(first) || d.Durable(0) != zeroSector() {
		t.Errorf("pending %v, sectors %q, %q", d.Pending(), d.Durable(0), d.Durable(1))
	}
	f.Arm(1)
	wantSave(t, d, api.Head{Seq: 2, Boot: 2, Area: 0, First: 1, Snaps: 0}, api.ErrDead)
	d.Crash(api.Choice{Keep: 0, Torn: 0, Bytes: 60})
	f.Reset()
	wantLoad(t, "after a torn write", d, first)

	wantEncode(t, api.Head{Seq: 0, Boot: 1, First: 1})
	wantEncode(t, api.Head{Seq: 1, Boot: 1, Area: 2, First: 1})
	wantBad(t, zeroSector())
	d, _ = diskOf(t, lay(first), zeroSector())
	wantLoadError(t, "in the other slot", d, api.ErrNone)
}

func TestEncodeIsTheDefinition(t *testing.T) { // P7.1
	for _, h := range sample() {
		if !good(h) {
			t.Fatalf("%+v is not valid", h)
		}
		wantEncode(t, h)
	}
	for _, f := range fieldList() {
		in, out := numbers(f.least, f.greatest)
		for _, n := range append(in, out...) {
			for _, h := range sample() {
				*f.at(&h) = n
				wantEncode(t, h)
			}
		}
	}
	g := generator()
	for range 5000 {
		wantEncode(t, randomHead(g))
	}
}

func TestEncodeRefuses(t *testing.T) { // P7.1: one field, or several
	for _, f := range fieldList() {
		_, out := numbers(f.least, f.greatest)
		for _, n := range out {
			h := api.Head{Seq: 3, Boot: 3, Area: 1, First: 3, Snaps: 3}
			*f.at(&h) = n
			if s, e := Encode(h); s != "" || e != api.ErrArg {
				t.Errorf("Encode with %s %d = %q, %d, want ErrArg", f.name, n, s, e)
			}
		}
	}
	for wrong := 1; wrong < 1<<5; wrong++ {
		for _, up := range []bool{false, true} {
			h := api.Head{Seq: 3, Boot: 3, Area: 1, First: 3, Snaps: 3}
			for k, f := range fieldList() {
				switch {
				case wrong>>k&1 == 0:
				case up:
					*f.at(&h) = f.greatest + 1
				default:
					*f.at(&h) = f.least - 1
				}
			}
			if s, e := Encode(h); s != "" || e != api.ErrArg {
				t.Errorf("Encode(%+v) = %q, %d, want ErrArg", h, s, e)
			}
		}
	}
	wantEncode(t, api.Head{})
}

func TestDecodeReadsSectors(t *testing.T) { // P7.1, P7.4
	g := generator()
	list := sample()
	for range 5000 {
		list = append(list, randomHead(g))
	}
	for _, h := range list {
		s, e := Encode(h)
		if e != api.OK {
			t.Fatalf("Encode(%+v) = %d", h, e)
		}
		wantDecode(t, s, h)
		again, e := Decode(lay(h))
		if back, be := Encode(again); again != h || e != api.OK || back != lay(h) || be != api.OK {
			t.Fatalf("Decode(%q) = %+v, %d, and Encode of it %q, %d", lay(h), again, e, back, be)
		}
	}
}

func TestDecodeOfOtherLengths(t *testing.T) { // P7.1
	for _, h := range sample() {
		s := lay(h)
		for n := range size {
			wantBad(t, s[:n])
			wantBad(t, s[size-n:])
		}
		for _, more := range []string{"\x00", "\x01", s[:1], s[:79], s, zeroSector(), strings.Repeat("x", 1000)} {
			wantBad(t, s+more)
			wantBad(t, more+s)
		}
		// Zeros missing or too many in the middle.
		for n := range 51 {
			wantBad(t, s[:23]+strings.Repeat("\x00", n)+s[74:])
		}
		wantBad(t, s[:23]+strings.Repeat("\x00", 52)+s[74:])
	}
	for n := range 200 {
		wantBad(t, strings.Repeat("\x00", n))
		wantBad(t, strings.Repeat("\xff", n))
	}
}

func TestDecodeOfAChangedByte(t *testing.T) { // P7.1, P7.7
	for _, h := range sample()[:6] {
		s := lay(h)
		for i := range size {
			for change := 1; change < 256; change++ {
				b := []byte(s)
				b[i] ^= byte(change)
				wantBad(t, string(b))
			}
		}
	}
}

func TestDecodeOfOtherSectors(t *testing.T) { // P7.1: with a checksum that is right
	fine := api.Head{Seq: 3, Boot: 4, Area: 1, First: 5, Snaps: 6}
	s := lay(fine)
	if seal(s, s) != s {
		t.Fatal("seal is wrong")
	}
	wantDecode(t, seal(s, s), fine)
	for _, at := range [][2]int{{0, 6}, {6, 10}, {11, 17}} { // Seq, Boot and First
		b := []byte(s)
		clear(b[at[0]:at[1]])
		wantBad(t, seal(string(b), string(b)))
		b[at[1]-1] = 1
		if h, e := Decode(seal(string(b), string(b))); !good(h) || e != api.OK {
			t.Errorf("with 1 at %v: %+v, %d", at, h, e)
		}
	}
	for area := 2; area < 256; area++ {
		b := []byte(s)
		b[10] = byte(area)
		wantBad(t, seal(string(b), s))
	}
	for i := range 6 {
		end := []byte(s[:6])
		end[i] ^= 1
		wantBad(t, seal(s, string(end)))
	}
	wantBad(t, seal(s, zeroSector()))
	for i := 23; i < 74; i++ {
		b := []byte(s)
		b[i] = 1
		wantBad(t, string(b))
	}
	// The checksum of all, of nothing, or of other bytes.
	for _, sum := range []uint32{0, crc32.ChecksumIEEE([]byte(s[:18])), crc32.ChecksumIEEE([]byte(s[:20])), crc32.ChecksumIEEE([]byte(s)), ^crc32.ChecksumIEEE([]byte(s[:19]))} {
		b := []byte(s)
		binary.BigEndian.PutUint32(b[19:], sum)
		wantBad(t, string(b))
	}
	b := []byte(s)
	slices.Reverse(b[19:23])
	wantBad(t, string(b))
}

func TestDecodeOfAnySectors(t *testing.T) { // P7.1, P7.4: random fields and ends with the right checksum
	g := generator()
	valid, bad := 0, 0
	for range 20000 {
		b := []byte(zeroSector())
		for i := range b[:19] {
			if g.IntN(3) == 0 {
				b[i] = byte(g.Uint32())
			}
		}
		b[10] = byte(g.IntN(3))
		end := slices.Clone(b[:6])
		if g.IntN(4) == 0 {
			end[g.IntN(6)]++
		}
		s := seal(string(b), string(end))
		h := api.Head{
			Seq:   int(binary.BigEndian.Uint64(append([]byte{0, 0}, b[:6]...))),
			Boot:  int(binary.BigEndian.Uint32(b[6:])),
			Area:  int(b[10]),
			First: int(binary.BigEndian.Uint64(append([]byte{0, 0}, b[11:17]...))),
			Snaps: int(binary.BigEndian.Uint16(b[17:])),
		}
		if good(h) && lay(h) == s {
			valid++
			wantDecode(t, s, h)
			if again, e := Encode(h); again != s || e != api.OK {
				t.Errorf("Encode(Decode(%q)) = %q, %d", s, again, e)
			}
			continue
		}
		bad++
		wantBad(t, s)
	}
	if valid < 2000 || bad < 2000 {
		t.Errorf("%d headers, %d others: the sectors are badly chosen", valid, bad)
	}
}

func TestNilDisk(t *testing.T) { // P7.2, P7.3: whatever else is at fault
	wantLoadError(t, "nil", nil, api.ErrNil)
	for _, h := range append(sample(), api.Head{}, api.Head{Seq: -1}) {
		wantSave(t, nil, h, api.ErrNil)
	}
}

func TestZeroDisk(t *testing.T) { // R1: one that New did not make has no sectors
	d := new(disk.Disk)
	wantLoadError(t, "zero", d, api.ErrRange)
	wantSave(t, d, api.Head{}, api.ErrArg)
	wantSave(t, d, sample()[0], api.ErrRange)
}

func TestDiskOfOneSector(t *testing.T) { // P7.2, P7.3: also with a fuse that has blown
	for _, h := range []api.Head{{Seq: 2, Boot: 1, First: 1}, {Seq: 1, Boot: 1, First: 1}} {
		d, f := diskOf(t, lay(h))
		for range 2 {
			wantLoadError(t, "one sector", d, api.ErrRange)
			wantSave(t, d, h, api.ErrRange)
			wantSave(t, d, api.Head{}, api.ErrArg)
			if len(d.Pending()) != 0 || d.Durable(0) != lay(h) {
				t.Errorf("the disk was changed: pending %v, %q", d.Pending(), d.Durable(0))
			}
			blow(t, f)
		}
	}
}

func TestFuseThatHasBlown(t *testing.T) { // P7.2, P7.3, R2
	full := api.Head{Seq: 6, Boot: 1, First: 1}
	for _, sectors := range [][]string{
		{zeroSector(), zeroSector()},
		{lay(full), zeroSector(), zeroSector()},
		{zeroSector(), lay(api.Head{Seq: 5, Boot: 1, First: 1})},
		{lay(full), lay(api.Head{Seq: 5, Boot: 1, First: 1})},
	} {
		d, f := diskOf(t, sectors...)
		blow(t, f)
		wantLoadError(t, "blown", d, api.ErrDead)
		wantSave(t, d, api.Head{Seq: 7, Boot: 1, First: 1}, api.ErrDead)
		wantSave(t, d, api.Head{Seq: 7, Boot: 1, First: 0}, api.ErrArg)
		if len(d.Pending()) != 0 || d.Durable(0) != sectors[0] || d.Durable(1) != sectors[1] {
			t.Error("the disk was changed")
		}
	}
}

func TestLoadBurnsNoFuse(t *testing.T) { // P7.2: it is no operation
	h := api.Head{Seq: 6, Boot: 1, First: 1}
	d, f := newDisk(t, 3)
	put(t, d, 0, lay(h))
	f.Arm(0)
	wantLoad(t, "armed", d, h)
	wantLoad(t, "armed", d, h)
	if f.Blown() || !slices.Equal(d.Pending(), []int{0}) {
		t.Errorf("blown: %t, pending %v", f.Blown(), d.Pending())
	}
	if e := f.Burn(); e != api.ErrDead {
		t.Error("the fuse is not armed with 0 any more")
	}
}

func TestFullDisk(t *testing.T) { // P7.3, S2: headers are written all the same
	d, _ := newDisk(t, 2)
	d.SetFull(true)
	h := api.Head{Seq: 1, Boot: 1, First: 1}
	wantSave(t, d, h, api.OK)
	wantLoad(t, "full", d, h)
}

// newest is what Load returns of these sectors, as the definition says.
func newest(sectors []string) (api.Head, bool) {
	var found api.Head
	for i, s := range sectors[:2] {
		h, e := Decode(s)
		if e == api.OK && h.Seq%2 == i && h.Seq > found.Seq {
			found = h
		}
	}
	return found, found.Seq > 0
}

func TestLoadIsTheDefinition(t *testing.T) { // P7.2: each pair of sectors, also in the other slot, and numbers that differ by one or more
	contents := []string{zeroSector(), strings.Repeat("x", size), strings.Repeat("\xff", size)}
	for _, seq := range []int{1, 2, 3, 4, 5, 100, 101, 255, 256, 257, 1 << 32, 1<<32 + 1, topSeq - 1, topSeq} {
		h := api.Head{Seq: seq, Boot: 9, Area: seq / 2 % 2, First: seq/2 + 1, Snaps: seq % 7}
		contents = append(contents, lay(h))
		if seq == 4 || seq == 5 {
			b := []byte(lay(h))
			b[30] ^= 1
			contents = append(contents, string(b))
		}
	}
	found, none := 0, 0
	for _, a := range contents {
		for _, b := range contents {
			want, ok := newest([]string{a, b})
			for _, more := range [][]string{nil, {zeroSector()}, {contents[len(contents)-1], contents[len(contents)-2]}} {
				d, _ := diskOf(t, append([]string{a, b}, more...)...)
				if ok {
					found++
					wantLoad(t, fmt.Sprintf("%q, %q", a, b), d, want)
					continue
				}
				none++
				wantLoadError(t, fmt.Sprintf("%q, %q", a, b), d, api.ErrNone)
			}
		}
	}
	if found < 300 || none < 200 {
		t.Errorf("%d headers, %d times none: badly chosen", found, none)
	}
}

func TestLoadComparesSeqAlone(t *testing.T) { // P7.2: the other fields may be less
	old := api.Head{Seq: 7, Boot: topBoot, Area: 1, First: topFirst, Snaps: topSnaps}
	for _, seq := range []int{8, 10, 1000} {
		next := api.Head{Seq: seq, Boot: 1, Area: 0, First: 1, Snaps: 0}
		d, _ := diskOf(t, lay(next), lay(old))
		wantLoad(t, "the greater Seq", d, next)
	}
	for _, seq := range []int{2, 4, 6} {
		older := api.Head{Seq: seq, Boot: topBoot, Area: 1, First: topFirst, Snaps: topSnaps}
		d, _ := diskOf(t, lay(older), lay(api.Head{Seq: 7, Boot: 1, First: 1}))
		wantLoad(t, "the greater Seq", d, api.Head{Seq: 7, Boot: 1, First: 1})
	}
}

func TestLoadSeesPendingWrites(t *testing.T) { // P7.2: as disk.Read returns the sectors
	d, _ := newDisk(t, 2)
	old, next := api.Head{Seq: 1, Boot: 1, First: 1}, api.Head{Seq: 2, Boot: 1, First: 1}
	wantSave(t, d, old, api.OK)
	put(t, d, 0, lay(next))
	wantLoad(t, "pending", d, next)
	put(t, d, 0, zeroSector())
	wantLoad(t, "pending zeros", d, old)
	d.Crash(api.Choice{Torn: -1})
	wantLoad(t, "lost", d, old)
}

func TestSaveSaves(t *testing.T) { // P7.3, P7.6: its slot, and nothing else
	g := generator()
	for _, n := range []int{2, 3, 4, 5, 100} {
		for _, h := range sample() {
			d, f := newDisk(t, n)
			want := make([]string, n)
			for i := range want {
				b := []byte(zeroSector())
				for k := range b {
					b[k] = byte(g.Uint32())
				}
				want[i] = string(b)
			}
			put(t, d, 0, want...)
			d.Sync()
			want[h.Seq%2] = lay(h)
			f.Arm(2)
			wantSave(t, d, h, api.OK)
			for i, s := range want {
				if got, _ := d.Read(i); got != s || d.Durable(i) != s {
					t.Fatalf("after Save(%+v) the sector %d is %q, durable %q, want %q", h, i, got, d.Durable(i), s)
				}
			}
			if len(d.Pending()) != 0 || f.Blown() {
				t.Fatalf("after Save pending %v, blown %t", d.Pending(), f.Blown())
			}
			if e := f.Burn(); e != api.ErrDead {
				t.Fatalf("Save(%+v) used less than two operations", h)
			}
			f.Reset()
			wantLoad(t, "after Save", d, h)
		}
	}
}

func TestSaveSyncsAll(t *testing.T) { // P7.3: Sync makes what others wrote durable, too
	d, _ := newDisk(t, 4)
	put(t, d, 3, lay(sample()[0]))
	wantSave(t, d, api.Head{Seq: 1, Boot: 1, First: 1}, api.OK)
	if d.Durable(3) != lay(sample()[0]) || len(d.Pending()) != 0 {
		t.Errorf("pending %v", d.Pending())
	}
}

func TestSaveRefuses(t *testing.T) { // P7.3, P7.6: without an operation
	d, f := newDisk(t, 3)
	old := api.Head{Seq: 1, Boot: 1, First: 1}
	wantSave(t, d, old, api.OK)
	put(t, d, 2, lay(old))
	f.Arm(0)
	for _, x := range fieldList() {
		for _, n := range []int{x.least - 1, x.greatest + 1, math.MinInt, math.MaxInt} {
			h := api.Head{Seq: 2, Boot: 2, First: 2}
			*x.at(&h) = n
			wantSave(t, d, h, api.ErrArg)
		}
	}
	if f.Blown() || !slices.Equal(d.Pending(), []int{2}) || d.Durable(0) != zeroSector() || d.Durable(1) != lay(old) {
		t.Errorf("blown %t, pending %v", f.Blown(), d.Pending())
	}
	wantLoad(t, "after calls that were refused", d, old)
	wantSave(t, d, api.Head{Seq: 2, Boot: 2, First: 2}, api.ErrDead)
}

func TestSaveWithAnArmedFuse(t *testing.T) { // P7.3: it ends with the operation that fails
	h := api.Head{Seq: 2, Boot: 2, First: 2}
	for k := range 5 {
		d, f := newDisk(t, 2)
		f.Arm(k)
		want := api.OK
		if k < 2 {
			want = api.ErrDead
		}
		wantSave(t, d, h, want)
		if f.Blown() != (k < 2) {
			t.Errorf("armed with %d: blown %t", k, f.Blown())
		}
		var pending []int
		if k == 1 {
			pending = []int{0}
		}
		if !slices.Equal(d.Pending(), pending) {
			t.Errorf("armed with %d: pending %v, want %v", k, d.Pending(), pending)
		}
	}
}

// choices are all choices for n pending writes: each lost or kept, and none or one torn after each number of bytes.
func choices(n int, visit func(api.Choice)) {
	for keep := range uint64(1) << n {
		visit(api.Choice{Keep: keep, Torn: -1})
		for torn := range n {
			for bytes := range size {
				visit(api.Choice{Keep: keep, Torn: torn, Bytes: bytes})
			}
		}
	}
}

// cut calls Save on a copy of a disk with each small number that the fuse is armed with, and shows what is there after each crash.
func cut(t *testing.T, d *disk.Disk, h api.Head, visit func(d *disk.Disk, done bool)) {
	t.Helper()
	for k := range 4 {
		f := fuse.New()
		d := d.Copy(f)
		f.Arm(k)
		e := Save(d, h)
		if (e == api.OK) != (k >= 2) || e != api.OK && e != api.ErrDead {
			t.Fatalf("Save with a fuse armed with %d = %d", k, e)
		}
		choices(len(d.Pending()), func(c api.Choice) {
			d := d.Copy(fuse.New())
			d.Crash(c)
			visit(d, e == api.OK)
		})
	}
}

func TestOneOrTheOther(t *testing.T) { // P7.5: one Save after the other, each cut everywhere
	headers := []api.Head{
		{Seq: 1, Boot: 1, Area: 0, First: 1, Snaps: 0},
		{Seq: 2, Boot: 2, Area: 0, First: 1, Snaps: 0},
		{Seq: 3, Boot: 2, Area: 1, First: 70000, Snaps: 3},
		{Seq: 4, Boot: 3, Area: 1, First: 70000, Snaps: 3},
		{Seq: 5, Boot: topBoot, Area: 0, First: topFirst, Snaps: topSnaps},
		{Seq: 6, Boot: 1, Area: 1, First: 1, Snaps: 1},
	}
	for _, shift := range []int{0, 1, 248, 249, 250, 253, 254, 65530, 1<<40 - 4, topSeq - 7, topSeq - 6} {
		d, _ := newDisk(t, 3)
		var old api.Head
		for _, h := range headers {
			h.Seq += shift
			news, olds := 0, 0
			cut(t, d, h, func(d *disk.Disk, done bool) {
				got, e := Load(d)
				switch {
				case got == h && e == api.OK:
					news++
				case done:
					t.Fatalf("Save(%+v) returned OK, then Load = %+v, %d", h, got, e)
				case old == (api.Head{}) && e == api.ErrNone, old != (api.Head{}) && got == old && e == api.OK:
					olds++
				default:
					t.Fatalf("after Save(%+v) over %+v: Load = %+v, %d", h, old, got, e)
				}
			})
			if news < 2 || olds < 2 {
				t.Errorf("%d times the new one, %d times the old one: badly chosen", news, olds)
			}
			wantSave(t, d, h, api.OK)
			old = h
		}
	}
}

func TestOneOrTheOtherAfterALostOne(t *testing.T) { // P7.5: a header with the same Seq and other contents was lost before
	for _, seq := range []int{1, 2, 3, 255, 256, 65536} {
		d, _ := newDisk(t, 2)
		var old api.Head
		for n := max(1, seq-2); n < seq; n++ {
			old = api.Head{Seq: n, Boot: 5, Area: n % 2, First: 9, Snaps: 1}
			wantSave(t, d, old, api.OK)
		}
		lost := api.Head{Seq: seq, Boot: 6, Area: 1, First: 500, Snaps: 40}
		h := api.Head{Seq: seq, Boot: 7, Area: 0, First: 1 << 40, Snaps: 41}
		tried := 0
		cut(t, d, lost, func(d *disk.Disk, _ bool) {
			if got, _ := Load(d); got != old {
				return // It was not lost.
			}
			tried++
			cut(t, d, h, func(d *disk.Disk, done bool) {
				got, e := Load(d)
				if got == h && e == api.OK {
					return
				}
				none := old == (api.Head{})
				if done || got != old || (e == api.ErrNone) != none || (e == api.OK) == none {
					t.Fatalf("after Save(%+v) over one that was lost: Load = %+v, %d, want %+v", h, got, e, old)
				}
			})
		})
		if tried < 80 {
			t.Errorf("Seq %d: %d headers were lost: badly chosen", seq, tried)
		}
	}
}

func TestManyCrashes(t *testing.T) { // P7.5, P7.6: again and again, with what earlier crashes left below
	g := generator()
	for range 200 {
		d, f := newDisk(t, 3)
		put(t, d, 2, strings.Repeat("s", size))
		d.Sync()
		var old api.Head
		for range 40 {
			h := api.Head{Seq: old.Seq + 1, Boot: 1 + g.IntN(3), Area: g.IntN(2), First: 1 + g.IntN(4), Snaps: g.IntN(3)}
			other := d.Durable(1 - h.Seq%2)
			f.Arm(g.IntN(4))
			e := Save(d, h)
			d.Crash(api.Choice{Keep: g.Uint64() & 1, Torn: g.IntN(3) - 1, Bytes: g.IntN(size)})
			f.Reset()
			got, _ := Load(d)
			if got != h && (e == api.OK || got != old) {
				t.Fatalf("after Save(%+v) = %d over %+v: Load = %+v", h, e, old, got)
			}
			if d.Durable(1-h.Seq%2) != other || d.Durable(2) != strings.Repeat("s", size) {
				t.Fatalf("Save(%+v) changed another sector than its slot", h)
			}
			old = got
		}
	}
}

func TestCrashChangesNoOtherSector(t *testing.T) { // P7.6
	d, _ := newDisk(t, 4)
	for n := 1; n <= 2; n++ {
		wantSave(t, d, api.Head{Seq: n, Boot: 1, First: 1}, api.OK)
	}
	put(t, d, 2, strings.Repeat("a", size), strings.Repeat("b", size))
	d.Sync()
	for _, seq := range []int{3, 4, 5, 1000} {
		cut(t, d, api.Head{Seq: seq, Boot: 1, First: 1}, func(after *disk.Disk, _ bool) {
			for i := range 4 {
				if i != seq%2 && after.Durable(i) != d.Durable(i) {
					t.Fatalf("Save with the Seq %d changed the sector %d", seq, i)
				}
			}
		})
	}
}

func TestChangedByteOfTheNewest(t *testing.T) { // P7.7
	for _, seq := range []int{1, 2, 3, 256, topSeq} {
		d, _ := newDisk(t, 2)
		var old, h api.Head
		for n := max(1, seq-1); n <= seq; n++ {
			old, h = h, api.Head{Seq: n, Boot: 3, Area: n % 2, First: 77, Snaps: n % 5}
			wantSave(t, d, h, api.OK)
		}
		for i := range size {
			for change := 1; change < 256; change++ {
				b := []byte(lay(h))
				b[i] ^= byte(change)
				put(t, d, seq%2, string(b))
				if old == (api.Head{}) {
					wantLoadError(t, "a changed byte", d, api.ErrNone)
					continue
				}
				wantLoad(t, "a changed byte", d, old)
			}
			d.Crash(api.Choice{Torn: -1})
		}
		wantLoad(t, "restored", d, h)
	}
}

// lent returns a string whose bytes are those of b, and change with them.
func lent(b []byte) string {
	return unsafe.String(unsafe.SliceData(b), len(b))
}

func TestDecodeLeavesItsArgument(t *testing.T) { // R3
	for _, h := range sample() {
		b := []byte(lay(h))
		wantDecode(t, lent(b), h)
		if string(b) != lay(h) {
			t.Errorf("Decode changed its argument to %q", b)
		}
	}
}

func TestCallsKeepNothing(t *testing.T) { // R6
	var first []any
	for range 2 {
		var list []any
		note := func(x ...any) { list = append(list, x...) }
		d, f := newDisk(t, 2)
		for n := range 6 {
			h := api.Head{Seq: n, Boot: 1, First: 1}
			s, e := Encode(h)
			back, be := Decode(s)
			note(s, e, back, be, Save(d, h))
			got, ge := Load(d)
			note(got, ge)
		}
		blow(t, f)
		if first == nil {
			first = list
		}
		if !slices.Equal(list, first) {
			t.Error("the same calls have other results")
		}
	}
}
