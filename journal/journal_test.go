package journal

import (
	"fmt"
	"math"
	"math/rand/v2"
	"slices"
	"strings"
	"testing"
	"unsafe"

	"sacristan/api"
	"sacristan/disk"
	"sacristan/frame"
	"sacristan/fuse"
	"sacristan/record"
	"sacristan/slots"
)

const (
	sectorSize = 80
	pieceSize  = 44
	most       = 4096  // bytes of a record
	mostArea   = 32000 // sectors of a half

	topSeq  = 1<<48 - 1
	topBoot = 1<<32 - 1
	topLsn  = 1<<48 - 1
)

func generator(n uint64) *rand.Rand {
	return rand.New(rand.NewPCG(8, n))
}

// text returns n bytes; equal bytes are far from each other.
func text(n int) string {
	b := make([]byte, n)
	for i := range b {
		b[i] = byte(i + i/251)
	}
	return string(b)
}

func zeros() string {
	return strings.Repeat("\x00", sectorSize)
}

// split returns the pieces of the data of a record.
func split(data string) []string {
	var list []string
	for len(data) > pieceSize {
		list = append(list, data[:pieceSize])
		data = data[pieceSize:]
	}
	return append(list, data)
}

// lay returns the sectors of a record.
func lay(boot, lsn int, kind uint8, data string) []string {
	pieces := split(data)
	var list []string
	for i, p := range pieces {
		s, e := frame.Encode(api.Frame{Boot: boot, Lsn: lsn, Part: i, Parts: len(pieces), Kind: kind, Data: p})
		if e != api.OK {
			panic(fmt.Sprintf("there are no sectors of the record %d, %d: %d", boot, lsn, e))
		}
		list = append(list, s)
	}
	return list
}

// parts returns the number of sectors of records together.
func parts(list ...string) int {
	n := 0
	for _, data := range list {
		n += len(split(data))
	}
	return n
}

// model is what a disk and its journal contain by the definitions of the chapter.
type model struct {
	area              int
	head              api.Head
	lsn, used         int
	snapshot, records []string
	image             []string // the sectors of the disk
}

func (m model) room() int {
	return m.area - m.used
}

// base returns the first sector of the half that is used.
func (m model) base() int {
	return 2 + m.head.Area*m.area
}

// saved is the model with the header in its slot.
func (m model) saved() model {
	s, e := slots.Encode(m.head)
	if e != api.OK {
		panic(fmt.Sprintf("there is no sector of the header %+v", m.head))
	}
	m.image = slices.Clone(m.image)
	m.image[m.head.Seq%2] = s
	return m
}

// laid is the model with a further record in the half.
func (m model) laid(kind uint8, data string) model {
	list := lay(m.head.Boot, m.lsn+1, kind, data)
	m.image = slices.Clone(m.image)
	copy(m.image[m.base()+m.used:m.base()+m.area], list)
	m.lsn++
	m.used += len(list)
	return m
}

func (m model) opened() model {
	m.head.Seq++
	m.head.Boot++
	return m.saved()
}

func (m model) appended(data string) model {
	m = m.laid(2, data)
	m.records = append(slices.Clone(m.records), data)
	return m
}

func (m model) compacted(list ...string) model {
	m.head.Seq++
	m.head.Area = 1 - m.head.Area
	m.head.First = m.lsn + 1
	m.head.Snaps = len(list)
	m.used = 0
	m.snapshot, m.records = slices.Clone(list), nil
	for _, data := range list {
		m = m.laid(1, data)
	}
	return m.saved()
}

// whole returns the record that has exactly these sectors.
func whole(sectors []string) (api.Frame, bool) {
	var r api.Frame
	for i, s := range sectors {
		f, e := frame.Decode(s)
		if e != api.OK {
			return api.Frame{}, false
		}
		if i == 0 {
			r = f
			continue
		}
		r.Data += f.Data
	}
	return r, r.Part == 0 && len(r.Data) <= most && slices.Equal(lay(r.Boot, r.Lsn, r.Kind, r.Data), sectors)
}

// next returns the record that begins at the first of these sectors.
func next(sectors []string) (api.Frame, bool) {
	if len(sectors) == 0 {
		return api.Frame{}, false
	}
	f, e := frame.Decode(sectors[0])
	if e != api.OK || f.Parts > len(sectors) {
		return api.Frame{}, false
	}
	return whole(sectors[:f.Parts])
}

// modelOf reads what the sectors of a disk contain; false: less than Snaps records are found.
func modelOf(image []string) (model, bool) {
	m := model{area: (len(image) - 2) / 2, head: api.Head{First: 1}, image: slices.Clone(image)}
	for i, s := range image[:2] {
		if h, e := slots.Decode(s); e == api.OK && h.Seq%2 == i && h.Seq > m.head.Seq {
			m.head = h
		}
	}
	m.lsn = m.head.First - 1
	for boot, n := 1, 0; ; n++ {
		r, ok := next(image[m.base()+m.used : m.base()+m.area])
		if !ok || r.Lsn != m.head.First+n || r.Boot < boot || n < m.head.Snaps && r.Kind != 1 || n >= m.head.Snaps && r.Kind != 2 {
			return m, n >= m.head.Snaps
		}
		if n < m.head.Snaps {
			m.snapshot = append(m.snapshot, r.Data)
		} else {
			m.records = append(m.records, r.Data)
		}
		m.lsn, m.used, boot = r.Lsn, m.used+r.Parts, r.Boot
	}
}

// sectorsOf returns what reads of a disk return, also if its fuse has blown.
func sectorsOf(d *disk.Disk) []string {
	d = d.Copy(fuse.New())
	list := make([]string, d.Sectors())
	for i := range list {
		list[i], _ = d.Read(i)
	}
	return list
}

func newDisk(t *testing.T, n int) (*disk.Disk, *fuse.Fuse) {
	t.Helper()
	f := fuse.New()
	d, e := disk.New(n, f)
	if e != api.OK {
		t.Fatalf("disk.New(%d) = %d", n, e)
	}
	return d, f
}

func blow(t *testing.T, f *fuse.Fuse) {
	t.Helper()
	f.Reset()
	f.Arm(0)
	if e := f.Burn(); e != api.ErrDead {
		t.Fatalf("Burn = %d", e)
	}
}

func put(t *testing.T, d *disk.Disk, at int, sectors ...string) {
	t.Helper()
	for i, s := range sectors {
		if e := d.Write(at+i, s); e != api.OK {
			t.Fatalf("Write(%d) = %d", at+i, e)
		}
	}
}

// scene is a disk, its journal and the model of both.
type scene struct {
	t *testing.T
	d *disk.Disk
	f *fuse.Fuse
	j *Journal
	m model
}

// blank returns a scene with a new disk, which has not been opened.
func blank(t *testing.T, area int) *scene {
	t.Helper()
	d, f := newDisk(t, 2+2*area)
	return sceneOf(t, d, f)
}

// sceneOf returns the scene of a disk as it is, which has not been opened.
func sceneOf(t *testing.T, d *disk.Disk, f *fuse.Fuse) *scene {
	t.Helper()
	m, ok := modelOf(sectorsOf(d))
	if !ok {
		t.Fatalf("less records than Snaps: %+v", m.head)
	}
	return &scene{t: t, d: d, f: f, m: m}
}

// start returns a scene with a journal on a new disk.
func start(t *testing.T, area int) *scene {
	t.Helper()
	s := blank(t, area)
	s.open()
	return s
}

func (s *scene) wantNumbers() {
	s.t.Helper()
	if s.j.Boot() != s.m.head.Boot || s.j.Lsn() != s.m.lsn || s.j.Room() != s.m.room() {
		s.t.Fatalf("Boot, Lsn, Room = %d, %d, %d, want %d, %d, %d", s.j.Boot(), s.j.Lsn(), s.j.Room(), s.m.head.Boot, s.m.lsn, s.m.room())
	}
}

// want checks the journal, and each sector of the disk.
func (s *scene) want() {
	s.t.Helper()
	s.wantNumbers()
	if len(s.d.Pending()) != 0 {
		s.t.Fatalf("pending %v", s.d.Pending())
	}
	for i, sector := range s.m.image {
		if s.d.Durable(i) != sector {
			s.t.Fatalf("the sector %d is %q, want %q", i, s.d.Durable(i), sector)
		}
	}
}

// open opens the journal of the disk, and checks what it returns.
func (s *scene) open() {
	s.t.Helper()
	j, snapshot, records, e := Open(s.d, s.m.area)
	if j == nil || e != api.OK {
		s.t.Fatalf("Open = %v, %d", j, e)
	}
	if !slices.Equal(snapshot, s.m.snapshot) || !slices.Equal(records, s.m.records) {
		s.t.Fatalf("Open returns %q and %q, want %q and %q", snapshot, records, s.m.snapshot, s.m.records)
	}
	s.j, s.m = j, s.m.opened()
	s.want()
}

func (s *scene) add(list ...string) *scene {
	s.t.Helper()
	for _, data := range list {
		if e := s.j.Append(data); e != api.OK {
			s.t.Fatalf("Append(%q) = %d", data, e)
		}
		s.m = s.m.appended(data)
		s.want()
	}
	return s
}

func (s *scene) compact(list ...string) *scene {
	s.t.Helper()
	if e := s.j.Compact(list...); e != api.OK {
		s.t.Fatalf("Compact(%q) = %d", list, e)
	}
	s.m = s.m.compacted(list...)
	s.want()
	return s
}

// refuses checks that calls return an error and change nothing, without an operation.
func (s *scene) refuses(want api.Errno, do func() api.Errno) {
	s.t.Helper()
	before, pending := sectorsOf(s.d), s.d.Pending()
	s.f.Arm(0)
	if e := do(); e != want {
		s.t.Fatalf("the call returns %d, want %d", e, want)
	}
	if s.f.Blown() {
		s.t.Fatal("an operation was performed")
	}
	s.f.Reset()
	if !slices.Equal(sectorsOf(s.d), before) || !slices.Equal(s.d.Pending(), pending) {
		s.t.Fatal("the disk was changed")
	}
	if s.j != nil {
		s.wantNumbers()
	}
}

func (s *scene) refusesAppend(want api.Errno, data string) {
	s.t.Helper()
	s.refuses(want, func() api.Errno { return s.j.Append(data) })
}

func (s *scene) refusesCompact(want api.Errno, list ...string) {
	s.t.Helper()
	s.refuses(want, func() api.Errno { return s.j.Compact(list...) })
}

// wantOpenError checks that Open returns an error and nothing else, and changes nothing.
func wantOpenError(t *testing.T, what string, d *disk.Disk, area int, want api.Errno) {
	t.Helper()
	var before []string
	if d != nil {
		before = sectorsOf(d)
	}
	pending := d.Pending()
	j, snapshot, records, e := Open(d, area)
	if j != nil || len(snapshot) != 0 || len(records) != 0 || e != want {
		t.Fatalf("%s: Open(%d) = %v, %q, %q, %d, want %d", what, area, j, snapshot, records, e, want)
	}
	if d != nil && !slices.Equal(sectorsOf(d), before) || !slices.Equal(d.Pending(), pending) {
		t.Fatalf("%s: the disk was changed", what)
	}
}

func TestExamples(t *testing.T) { // P8.1, P8.2, P8.3, P8.4
	d, f := newDisk(t, 10)
	j, snapshot, records, e := Open(d, 4)
	if j == nil || len(snapshot) != 0 || len(records) != 0 || e != api.OK || j.Boot() != 1 || j.Lsn() != 0 || j.Room() != 4 {
		t.Fatalf("Open of a new disk = %+v, %q, %q, %d", j, snapshot, records, e)
	}
	e1, e2 := j.Append("a"), j.Append(strings.Repeat("x", 50))
	if e1 != api.OK || e2 != api.OK || j.Lsn() != 2 || j.Room() != 1 {
		t.Errorf("Append = %d, %d; %d, %d", e1, e2, j.Lsn(), j.Room())
	}
	if e := j.Append(strings.Repeat("y", 50)); e != api.ErrFull {
		t.Errorf("Append without room = %d", e)
	}
	e1, lsn, room := j.Compact("s", "t"), j.Lsn(), j.Room()
	if e2 := j.Append("b"); e1 != api.OK || lsn != 4 || room != 2 || e2 != api.OK {
		t.Errorf("Compact = %d, Lsn %d, Room %d; Append = %d", e1, lsn, room, e2)
	}
	j, snapshot, records, e = Open(d, 4)
	if e != api.OK || !slices.Equal(snapshot, []string{"s", "t"}) || !slices.Equal(records, []string{"b"}) || j.Boot() != 2 || j.Lsn() != 5 {
		t.Fatalf("Open again = %+v, %q, %q, %d", j, snapshot, records, e)
	}
	f.Arm(1)
	if e := j.Append("c"); e != api.ErrDead {
		t.Errorf("Append with a crash = %d", e)
	}
	f.Reset()
	for keep, want := range [][]string{{"b"}, {"b", "c"}} {
		d := d.Copy(fuse.New())
		d.Crash(api.Choice{Keep: uint64(keep), Torn: -1})
		j, snapshot, records, e := Open(d, 4)
		if e != api.OK || !slices.Equal(snapshot, []string{"s", "t"}) || !slices.Equal(records, want) || j.Boot() != 3 {
			t.Fatalf("Open after a crash with Keep %d = %+v, %q, %q, %d", keep, j, snapshot, records, e)
		}
		if e := j.Compact("", "", "", "", ""); e != api.ErrFull {
			t.Errorf("Compact with five empty records = %d", e)
		}
	}
	wantOpenError(t, "no disk", nil, 4, api.ErrNil)
	wantOpenError(t, "10 sectors", d, 5, api.ErrArg)
}

func TestOpenOfNil(t *testing.T) { // P8.1: whatever the area is
	for _, area := range []int{math.MinInt, -1, 0, 1, 4, mostArea, mostArea + 1, math.MaxInt} {
		wantOpenError(t, "nil", nil, area, api.ErrNil)
	}
}

func TestOpenOfAreas(t *testing.T) { // P8.1
	for _, area := range []int{1, 2, 3, 31999, mostArea} {
		s := start(t, area)
		if s.j.Boot() != 1 || s.j.Lsn() != 0 || s.j.Room() != area {
			t.Errorf("area %d: Boot, Lsn, Room = %d, %d, %d", area, s.j.Boot(), s.j.Lsn(), s.j.Room())
		}
		s.add("a").compact("b").compact()
		s.open()
	}
}

func TestOpenRefusesAreas(t *testing.T) { // P8.1, R2: also if the fuse has blown, and on any disk
	areas := []int{math.MinInt, math.MinInt + 1, math.MinInt + 4, -mostArea, -2, -1, 0, mostArea + 1, mostArea + 2, 32767, 1 << 32, 1 << 62, 1<<62 + 4, 1<<63 - 1}
	for _, n := range []int{1, 2, 3, 4, 10, 2 + 2*mostArea, 4 + 2*mostArea, 65536} {
		d, f := newDisk(t, n)
		for range 2 {
			for _, area := range areas {
				wantOpenError(t, fmt.Sprintf("%d sectors", n), d, area, api.ErrArg)
			}
			blow(t, f)
		}
	}
}

func TestOpenRefusesOtherDisks(t *testing.T) { // P8.1: one sector less, one more, and halves of another size
	for _, area := range []int{1, 2, 4, 100, mostArea} {
		for _, n := range []int{1, 2, area, 2 * area, 1 + 2*area, 3 + 2*area, 4 + 2*area, 2 + area, 65536} {
			d, f := newDisk(t, n)
			if n == 2+2*area {
				t.Fatal("badly chosen")
			}
			for range 2 {
				wantOpenError(t, fmt.Sprintf("%d sectors", n), d, area, api.ErrArg)
				blow(t, f)
			}
		}
	}
	s := start(t, 4).add("a")
	for _, area := range []int{1, 2, 3, 5, 6, 8, 10} {
		wantOpenError(t, "another area", s.d, area, api.ErrArg)
	}
	wantOpenError(t, "zero disk", new(disk.Disk), 1, api.ErrArg)
}

func TestOpenWithFuses(t *testing.T) { // P8.1, P8.7: it has blown, or is armed
	sample := func() *scene { return start(t, 5).add("a").compact("s", text(50)).add("b") }
	for _, make := range []func() *scene{func() *scene { return blank(t, 5) }, sample} {
		s := make()
		blow(t, s.f)
		wantOpenError(t, "blown", s.d, 5, api.ErrDead)
		for k := range 3 {
			s := make()
			after := s.m.opened()
			slot := after.head.Seq % 2
			s.f.Arm(k)
			if k == 2 {
				s.open()
				if s.f.Blown() {
					t.Error("Open with a fuse armed with 2: it has blown")
				}
				if e := s.f.Burn(); e != api.ErrDead {
					t.Error("Open uses less than two operations")
				}
				continue
			}
			j, snapshot, records, e := Open(s.d, 5)
			if j != nil || len(snapshot) != 0 || len(records) != 0 || e != api.ErrDead || !s.f.Blown() {
				t.Errorf("Open with a fuse armed with %d = %v, %q, %q, %d", k, j, snapshot, records, e)
			}
			if want := []int{slot}[:k]; !slices.Equal(s.d.Pending(), want) {
				t.Errorf("Open with a fuse armed with %d: pending %v, want %v", k, s.d.Pending(), want)
			}
			if k == 1 && sectorsOf(s.d)[slot] != after.image[slot] {
				t.Error("Open writes another header")
			}
		}
	}
}

// diskOf returns a disk with halves of area sectors, with a header unless its Seq is 0, and these sectors from its half's first one on.
func diskOf(t *testing.T, area int, h api.Head, sectors ...string) (*disk.Disk, *fuse.Fuse) {
	t.Helper()
	d, f := newDisk(t, 2+2*area)
	if h.Seq != 0 {
		s, e := slots.Encode(h)
		if e != api.OK {
			t.Fatalf("slots.Encode(%+v) = %d", h, e)
		}
		put(t, d, h.Seq%2, s)
	}
	put(t, d, 2+h.Area*area, sectors...)
	d.Sync()
	return d, f
}

func TestOpenOfNoHeader(t *testing.T) { // P8.1: it counts as Seq 0, Boot 0, Area 0, First 1, Snaps 0; with records that were left there
	for _, boot := range []int{1, 2, topBoot} {
		d, f := diskOf(t, 4, api.Head{}, slices.Concat(lay(boot, 1, 2, "a"), lay(boot, 2, 2, text(60)))...)
		s := sceneOf(t, d, f)
		s.open()
		if s.j.Boot() != 1 || s.j.Lsn() != 2 || s.j.Room() != 1 || s.m.head != (api.Head{Seq: 1, Boot: 1, First: 1}) {
			t.Errorf("Boot, Lsn, Room = %d, %d, %d, header %+v", s.j.Boot(), s.j.Lsn(), s.j.Room(), s.m.head)
		}
	}
	for _, left := range [][]string{lay(1, 2, 2, "a"), lay(1, 1, 1, "a"), lay(1, 1, 0, "a")} {
		d, f := diskOf(t, 4, api.Head{}, left...)
		s := sceneOf(t, d, f)
		s.open()
		if s.j.Boot() != 1 || s.j.Lsn() != 0 || s.j.Room() != 4 {
			t.Errorf("Boot, Lsn, Room = %d, %d, %d", s.j.Boot(), s.j.Lsn(), s.j.Room())
		}
	}
	d, f := newDisk(t, 10)
	put(t, d, 6, lay(1, 1, 2, "in the other half")...)
	put(t, d, 0, strings.Repeat("x", sectorSize), strings.Repeat("\xff", sectorSize))
	sceneOf(t, d, f).open()
}

func TestOpenKeepsTheHeader(t *testing.T) { // P8.1: the same Area, First and Snaps, the next Seq and Boot
	for _, area := range []int{0, 1} {
		for _, seq := range []int{1, 2, 7, 8, topSeq - 2, topSeq - 1} {
			for _, boot := range []int{1, 2, 255, topBoot - 2, topBoot - 1} {
				for _, first := range []int{1, 2, 65536, topLsn - 3} {
					h := api.Head{Seq: seq, Boot: boot, Area: area, First: first, Snaps: 1}
					d, f := diskOf(t, 3, h, slices.Concat(lay(1, first, 1, "s"), lay(1, first+1, 2, "r"))...)
					s := sceneOf(t, d, f)
					s.open()
					h.Seq++
					h.Boot++
					if got, e := slots.Load(d); got != h || e != api.OK {
						t.Fatalf("the header is %+v, %d, want %+v", got, e, h)
					}
					if s.j.Boot() != boot+1 || s.j.Lsn() != first+1 || s.j.Room() != 1 {
						t.Fatalf("Boot, Lsn, Room = %d, %d, %d", s.j.Boot(), s.j.Lsn(), s.j.Room())
					}
				}
			}
		}
	}
}

func TestOpenUsesTheNewestHeader(t *testing.T) { // P8.1: which half, and with which numbers
	for _, seqs := range [][2]int{{2, 1}, {2, 3}, {4, 1}, {256, 257}, {258, 257}} {
		d, f := newDisk(t, 10)
		first := api.Head{Seq: seqs[0], Boot: 3, Area: 0, First: 1, Snaps: 1}
		second := api.Head{Seq: seqs[1], Boot: 3, Area: 1, First: 9, Snaps: 0}
		for i, h := range []api.Head{first, second} {
			s, _ := slots.Encode(h)
			put(t, d, i, s)
		}
		put(t, d, 2, slices.Concat(lay(1, 1, 1, "s"), lay(2, 2, 2, "a"))...)
		put(t, d, 6, slices.Concat(lay(3, 9, 2, "b"), lay(3, 10, 2, "c"))...)
		s := sceneOf(t, d, f)
		s.open()
		want := []string{"b", "c"}
		if seqs[0] > seqs[1] {
			want = []string{"a"}
		}
		if !slices.Equal(s.m.records, want) {
			t.Errorf("headers with Seq %v: %q, want %q", seqs, s.m.records, want)
		}
	}
}

func TestOpenOfLessRecordsThanSnaps(t *testing.T) { // P8.1: none, one too few, or another one in between
	first := []string{lay(2, 5, 1, "s")[0], lay(2, 6, 1, "t")[0], lay(2, 7, 1, "u")[0]}
	with := func(i int, s string) []string {
		list := slices.Clone(first)
		list[i] = s
		return list
	}
	type disks struct {
		snaps   int
		sectors []string
	}
	list := []disks{{1, nil}, {4, first}, {5, first}, {65535, first}, {3, first[:2]}, {2, first[:1]}, {3, first[1:]}}
	for i, data := range []string{"s", "t", "u"} {
		for _, r := range []api.Frame{
			{Boot: 2, Lsn: 5 + i, Kind: 2}, {Boot: 2, Lsn: 5 + i, Kind: 0}, {Boot: 2, Lsn: 5 + i, Kind: 3}, {Boot: 2, Lsn: 5 + i, Kind: 255},
			{Boot: 2, Lsn: 4 + i, Kind: 1}, {Boot: 2, Lsn: 6 + i, Kind: 1}, {Boot: 2, Lsn: 5 + i + 1<<40, Kind: 1},
		} {
			list = append(list, disks{3, with(i, lay(r.Boot, r.Lsn, r.Kind, data)[0])})
		}
		list = append(list, disks{3, with(i, zeros())}, disks{3, with(i, lay(2, 5+i, 1, text(50))[0])})
		if i > 0 {
			list = append(list, disks{3, with(i, lay(1, 5+i, 1, data)[0])})
		}
	}
	list = append(list, disks{3, with(0, lay(3, 5, 1, "s")[0])}) // The next one has a lesser boot then.
	for i, x := range list {
		for _, area := range []int{0, 1} {
			h := api.Head{Seq: 4, Boot: 3, Area: area, First: 5, Snaps: x.snaps}
			d, f := diskOf(t, 4, h, x.sectors...)
			if _, ok := modelOf(sectorsOf(d)); ok {
				t.Fatalf("the disk %d is badly chosen", i)
			}
			f.Arm(0)
			wantOpenError(t, fmt.Sprint("the disk ", i), d, 4, api.ErrBad)
			if f.Blown() {
				t.Errorf("the disk %d: an operation was performed", i)
			}
			blow(t, f)
			wantOpenError(t, fmt.Sprint("the disk ", i), d, 4, api.ErrDead)
		}
	}
	d, f := diskOf(t, 4, api.Head{Seq: 4, Boot: 3, First: 5, Snaps: 3}, first...)
	sceneOf(t, d, f).open()
}

func TestOpenWithoutANextHeader(t *testing.T) { // P8.1, R2: ErrBad comes before it, and ErrDead before both
	for _, x := range []struct{ seq, boot int }{{topSeq, 1}, {1, topBoot}, {topSeq, topBoot}, {topSeq, topBoot - 1}, {topSeq - 1, topBoot}} {
		for _, area := range []int{0, 1} {
			h := api.Head{Seq: x.seq, Boot: x.boot, Area: area, First: 7}
			d, f := diskOf(t, 3, h, lay(1, 7, 2, "r")...)
			f.Arm(0)
			wantOpenError(t, "no next header", d, 3, api.ErrArg)
			wantOpenError(t, "no next header", d, 2, api.ErrArg)
			if f.Blown() {
				t.Error("an operation was performed")
			}
			blow(t, f)
			wantOpenError(t, "no next header, blown", d, 3, api.ErrDead)

			h.Snaps = 1
			d, f = diskOf(t, 3, h, lay(1, 7, 2, "r")...)
			f.Arm(0)
			wantOpenError(t, "no next header and no snapshot", d, 3, api.ErrBad)
			blow(t, f)
			wantOpenError(t, "no next header and no snapshot, blown", d, 3, api.ErrDead)
		}
	}
	d, f := diskOf(t, 3, api.Head{Seq: topSeq - 1, Boot: topBoot - 1, First: 7}, lay(1, 7, 2, "r")...)
	s := sceneOf(t, d, f)
	s.open()
	s.add("the last boot")
	wantOpenError(t, "the last boot and Seq are used", d, 3, api.ErrArg)
}

func TestOpenOfAFullDisk(t *testing.T) { // P8.1, S2: headers are written all the same
	s := blank(t, 4)
	s.d.SetFull(true)
	s.open()
	s.open()
	if !s.d.Full() {
		t.Error("the disk is not full any more")
	}
}

func TestOpenSeesTheLatestWrites(t *testing.T) { // P8.1: as disk.Read returns them; its Sync makes them durable
	s := start(t, 4).add("a")
	s.f.Arm(2)
	if e := s.j.Append(text(50)); e != api.ErrDead {
		t.Fatalf("Append = %d", e)
	}
	s.f.Reset()
	s.m = s.m.appended(text(50))
	s.open()
	s.d.Crash(api.Choice{Torn: 0, Bytes: 9})
	s.open()
}

// stale are sectors at the place where the record with the number 3 and a boot of at least 4 would begin, after one with the boot 4.
func stale() map[string][]string {
	return map[string][]string{
		"nothing":                      nil,
		"a lesser boot":                lay(3, 3, 2, "x"),
		"the first boot":               lay(1, 3, 2, "x"),
		"a lesser number":              lay(4, 2, 2, "x"),
		"the first number":             lay(4, 1, 2, "x"),
		"a greater number":             lay(4, 4, 2, "x"),
		"the kind of a snapshot":       lay(4, 3, 1, "x"),
		"the kind 0":                   lay(4, 3, 0, "x"),
		"the kind 3":                   lay(4, 3, 3, "x"),
		"the kind 255":                 lay(4, 3, 255, "x"),
		"without its end":              lay(4, 3, 2, text(100))[:2],
		"without its beginning":        lay(4, 3, 2, text(100))[1:],
		"with another one's end":       append(lay(4, 3, 2, text(50))[:1], lay(3, 3, 2, text(50))[1]),
		"with another one's beginning": append(lay(3, 3, 2, text(50))[:1], lay(4, 3, 2, text(50))[1]),
		"too many sectors":             lay(4, 3, 2, text(250)),
		"a gap of a sector":            append([]string{zeros()}, lay(4, 3, 2, "x")...),
		"bytes":                        {strings.Repeat("x", sectorSize)},
		"a header":                     {headerSector()},
	}
}

func headerSector() string {
	s, _ := slots.Encode(api.Head{Seq: 900, Boot: 900, First: 3})
	return s
}

func TestOpenStopsAtTheEnd(t *testing.T) { // P8.1: at what is no record, whatever comes behind it
	for name, list := range stale() {
		for _, area := range []int{0, 1} {
			for _, behind := range [][]string{nil, lay(4, 3, 2, "behind"), lay(4, 4, 2, "behind"), lay(9, 3, 2, text(60))} {
				const size = 7
				h := api.Head{Seq: 4, Boot: 9, Area: area, First: 1, Snaps: 1}
				begin := slices.Concat(lay(2, 1, 1, "s"), lay(4, 2, 2, "r"))
				sectors := slices.Concat(begin, list, behind)
				sectors = sectors[:min(size, len(sectors))]
				d, f := diskOf(t, size, h, sectors...)
				if name == "too many sectors" && area == 0 {
					put(t, d, 2+size, list[size-len(begin):]...)
				}
				s := sceneOf(t, d, f)
				want := []string{"r"}
				if name == "nothing" && len(behind) > 0 && s.m.lsn == 3 {
					want = s.m.records
				}
				if !slices.Equal(s.m.records, want) {
					t.Fatalf("%s: the disk is badly chosen: %q", name, s.m.records)
				}
				s.open()
				if name != "nothing" && (s.j.Lsn() != 2 || s.j.Room() != 5) {
					t.Fatalf("%s: Lsn %d, Room %d", name, s.j.Lsn(), s.j.Room())
				}
				s.add("new")
				s.open()
				s.add(text(60))
				s.open()
				s.compact("t").add("more")
				s.open()
			}
		}
	}
}

func TestOpenFindsAllRecords(t *testing.T) { // P8.1: boots that stay or grow, also beyond that of the header, and records of any length
	for _, boots := range [][]int{{1, 1, 1}, {1, 2, 2}, {1, 1, 2}, {3, 3, 4}, {4, 5, 9}, {1, 1, topBoot}, {2, 2, 1}, {2, 1, 2}, {2, 1, 1}} {
		for snaps := range 4 {
			var sectors []string
			for i, boot := range boots {
				kind := uint8(2)
				if i < snaps {
					kind = 1
				}
				sectors = append(sectors, lay(boot, 20+i, kind, text(i*44))...)
			}
			for _, area := range []int{0, 1} {
				d, f := diskOf(t, 4, api.Head{Seq: 9, Boot: 3, Area: area, First: 20, Snaps: snaps}, sectors...)
				if _, ok := modelOf(sectorsOf(d)); !ok {
					wantOpenError(t, "lesser boots", d, 4, api.ErrBad)
					continue
				}
				s := sceneOf(t, d, f)
				s.open()
				grows := slices.IsSorted(boots)
				if (s.j.Lsn() == 22) != grows || (s.j.Room() == 0) != grows {
					t.Fatalf("boots %v: Lsn %d, Room %d", boots, s.j.Lsn(), s.j.Room())
				}
			}
		}
	}
}

func TestOpenStaysInItsHalf(t *testing.T) { // P8.1: a record must end in the half
	const area = 3
	for used := range area + 1 {
		for n := 1; n <= area; n++ {
			d, f := newDisk(t, 2+2*area)
			at := 2
			for i := range used {
				put(t, d, at, lay(1, 1+i, 2, "r")...)
				at++
			}
			put(t, d, at, lay(1, 1+used, 2, text(n*pieceSize))...)
			s := sceneOf(t, d, f)
			s.open()
			want := used
			if used+n <= area {
				want++
			}
			if s.j.Lsn() != want {
				t.Errorf("after %d records one of %d sectors: Lsn %d, want %d", used, n, s.j.Lsn(), want)
			}
		}
	}
}

// garden returns n sectors of records from the number first on, of which snaps have the kind 1, with pieces of records and others among them.
func garden(g *rand.Rand, n, first, snaps int) []string {
	var list []string
	lsn, boot := first, 1
	for len(list) < n {
		kind := uint8(2)
		if lsn < first+snaps {
			kind = 1
		}
		if g.IntN(20) == 0 {
			kind = uint8(g.IntN(4))
		}
		r := lay(boot, lsn, kind, text(g.IntN(120)))
		switch g.IntN(20) {
		case 0:
			r = r[:g.IntN(len(r))]
		case 1:
			r = append(r, zeros())
		case 2:
			lsn++
		case 3:
			boot = max(1, boot-1)
		}
		boot += g.IntN(4) / 3
		lsn++
		list = append(list, r...)
	}
	return list[:n]
}

func TestOpenIsTheDefinition(t *testing.T) { // P8.1: whatever is on the disk
	g := generator(1)
	good, bad, found := 0, 0, 0
	for range 6000 {
		area := 1 + g.IntN(9)
		d, f := newDisk(t, 2+2*area)
		first, snaps := 1+g.IntN(3), g.IntN(4)
		for i := range 2 {
			h := api.Head{Seq: 1 + g.IntN(6), Boot: 1 + g.IntN(5), Area: g.IntN(2), First: first, Snaps: snaps}
			if s, _ := slots.Encode(h); g.IntN(4) > 0 {
				put(t, d, i, s)
			}
		}
		put(t, d, 2, garden(g, area, first+g.IntN(4)/3, snaps)...)
		put(t, d, 2+area, garden(g, area, first, snaps+g.IntN(4)/3)...)
		d.Sync()
		m, ok := modelOf(sectorsOf(d))
		if !ok {
			bad++
			wantOpenError(t, "less records than Snaps", d, area, api.ErrBad)
			continue
		}
		good++
		found += len(m.records)
		sceneOf(t, d, f).open()
	}
	if good < 1000 || bad < 1000 || found < 1000 {
		t.Errorf("%d disks, %d with too few records, %d records: badly chosen", good, bad, found)
	}
}

func TestAppendOfLengths(t *testing.T) { // P8.2, P8.4, P8.7
	for _, n := range []int{0, 1, 43, 44, 45, 46, 87, 88, 89, 132, 133, 4047, 4048, 4049, 4092, 4093, 4095, 4096} {
		s := start(t, 200)
		s.add("before")
		s.f.Arm(parts(text(n)) + 1)
		s.add(text(n))
		if s.j.Lsn() != 2 || s.j.Room() != 199-parts(text(n)) || s.f.Blown() || s.f.Burn() != api.ErrDead {
			t.Errorf("Append of %d bytes: Lsn %d, Room %d, or another number of operations", n, s.j.Lsn(), s.j.Room())
		}
		s.f.Reset()
		s.add("behind", text(n))
		s.open()
	}
	for _, data := range []string{"\x00", strings.Repeat("\x00", 100), strings.Repeat("\xff", 45), strings.Repeat("é", 44), strings.Repeat("日", 30)} {
		s := start(t, 20).add(data).compact(data, data).add(data)
		s.open()
	}
}

func TestAppendOfTooLong(t *testing.T) { // P8.2, P8.8, R2: also on a full disk, and where there is no room
	for _, area := range []int{1, 94, 200} {
		s := start(t, area).add("a")
		for _, full := range []bool{false, true} {
			s.d.SetFull(full)
			for _, n := range []int{4097, 4098, 4136, 4137, 1 << 16} {
				s.refusesAppend(api.ErrLong, text(n))
			}
		}
		s.d.SetFull(false)
		s.open()
	}
}

func TestAppendToTheRoom(t *testing.T) { // P8.2, P8.8: it fits, or has one sector more
	for area := 1; area <= 6; area++ {
		for used := range area + 1 {
			for _, move := range []bool{false, true} {
				s := start(t, area)
				if move {
					s.compact()
				}
				for range used {
					s.add("r")
				}
				room := area - used
				for n := room + 1; n < room+4; n++ {
					s.refusesAppend(api.ErrFull, text((n-1)*pieceSize+1))
					s.refusesAppend(api.ErrFull, text(n*pieceSize))
				}
				if room > 0 {
					s.add(text(room * pieceSize))
				}
				s.refusesAppend(api.ErrFull, "")
				s.refusesAppend(api.ErrFull, "x")
				s.open()
				s.refusesAppend(api.ErrFull, "x")
				s.compact()
				s.add(text(area * pieceSize))
				s.open()
			}
		}
	}
	s := start(t, 94).add(text(4096))
	s.refusesAppend(api.ErrFull, "")
	s.open()
	s = start(t, 93)
	s.refusesAppend(api.ErrFull, text(4096))
	s.add(text(4048)).compact(text(4092))
	s.open()
}

func TestAppendOnAFullDisk(t *testing.T) { // P8.2, P8.8, S2: until there is space again
	s := start(t, 6).add("a")
	s.d.SetFull(true)
	for _, data := range []string{"", "b", text(100), text(4096)} {
		s.refusesAppend(api.ErrFull, data)
	}
	s.compact("s", "t")
	s.refusesAppend(api.ErrFull, "b")
	s.open()
	s.refusesAppend(api.ErrFull, "b")
	s.d.SetFull(false)
	s.add("b")
	s.open()
}

func TestCompactOfLists(t *testing.T) { // P8.3, P8.4, P8.7
	for _, list := range [][]string{
		{}, {""}, {"s"}, {"s", "t"}, {"", "", ""}, {text(44)}, {text(45)}, {text(100), "", text(45), "x"}, {text(4096), text(4096), "s"},
		slices.Repeat([]string{"s"}, 100), {"s", "s"}, {strings.Repeat("\x00", 50), "\xff"},
	} {
		s := start(t, 200)
		for range 3 {
			s.add("a", text(50))
			lsn := s.j.Lsn()
			s.f.Arm(parts(list...) + 3)
			s.compact(list...)
			if s.f.Blown() || s.f.Burn() != api.ErrDead {
				t.Errorf("Compact of %d sectors uses another number of operations", parts(list...))
			}
			s.f.Reset()
			if s.j.Lsn() != lsn+len(list) || s.j.Room() != 200-parts(list...) || s.j.Boot() != 1 {
				t.Errorf("Compact(%q): Lsn %d, Room %d, Boot %d", list, s.j.Lsn(), s.j.Room(), s.j.Boot())
			}
		}
		s.open()
		s.compact(list...).compact(list...)
		s.open()
		s.add("b")
		s.open()
	}
}

func TestCompactOfTooLong(t *testing.T) { // P8.3, P8.8, R2: at each place, also if there are too many sectors
	for _, area := range []int{1, 4, 300} {
		s := start(t, area).add("a")
		for _, full := range []bool{false, true} {
			s.d.SetFull(full)
			for _, n := range []int{4097, 4098, 4136, 4137, 1 << 16} {
				long := text(n)
				s.refusesCompact(api.ErrLong, long)
				s.refusesCompact(api.ErrLong, long, "s")
				s.refusesCompact(api.ErrLong, "s", long)
				s.refusesCompact(api.ErrLong, "s", long, "t")
				s.refusesCompact(api.ErrLong, append(slices.Repeat([]string{"s"}, area+1), long)...)
				s.refusesCompact(api.ErrLong, append(slices.Repeat([]string{text(4096)}, 4), long)...)
				s.refusesCompact(api.ErrLong, long, long)
			}
		}
		s.open()
	}
}

func TestCompactToTheArea(t *testing.T) { // P8.3, P8.8: as many sectors as area, and one more
	for area := 1; area <= 6; area++ {
		for used := range area + 1 {
			s := start(t, area)
			for range used {
				s.add("r")
			}
			s.refusesCompact(api.ErrFull, text(area*pieceSize+1))
			s.refusesCompact(api.ErrFull, slices.Repeat([]string{""}, area+1)...)
			s.refusesCompact(api.ErrFull, text((area-1)*pieceSize+1), "s")
			s.refusesCompact(api.ErrFull, "s", text((area-1)*pieceSize+1))
			s.refusesCompact(api.ErrFull, slices.Repeat([]string{text(4096)}, 50)...)
			s.compact(text(area * pieceSize))
			s.refusesAppend(api.ErrFull, "")
			s.compact(slices.Repeat([]string{""}, area)...)
			s.refusesAppend(api.ErrFull, "")
			s.refusesCompact(api.ErrFull, slices.Repeat([]string{""}, area+1)...)
			if area > 1 {
				s.compact("s", text((area-1)*pieceSize))
			}
			s.open()
			s.refusesCompact(api.ErrFull, slices.Repeat([]string{""}, area+1)...)
			s.compact()
			s.open()
		}
	}
}

func TestCompactOfManyRecords(t *testing.T) { // P8.3: as many as a half has sectors at most
	s := start(t, mostArea)
	s.refusesCompact(api.ErrFull, slices.Repeat([]string{""}, mostArea+1)...)
	if e := s.j.Compact(slices.Repeat([]string{"s"}, mostArea)...); e != api.OK || s.j.Lsn() != mostArea || s.j.Room() != 0 {
		t.Fatalf("Compact = %d, Lsn %d, Room %d", e, s.j.Lsn(), s.j.Room())
	}
	j, snapshot, records, e := Open(s.d, mostArea)
	if e != api.OK || !slices.Equal(snapshot, slices.Repeat([]string{"s"}, mostArea)) || len(records) != 0 || j.Lsn() != mostArea || j.Room() != 0 {
		t.Fatalf("Open returns %d and %d records, %d", len(snapshot), len(records), e)
	}
}

func TestCompactOnAFullDisk(t *testing.T) { // P8.3, S2: it does not matter
	s := start(t, 4).add("a", "b")
	s.d.SetFull(true)
	s.compact("s", "t")
	s.refusesCompact(api.ErrFull, "s", "t", "u", "v", "w")
	s.compact()
	s.compact(text(4 * pieceSize))
	s.open()
}

func TestCallsOfNil(t *testing.T) { // P8.2, P8.3, P8.4, R5
	var j *Journal
	for _, data := range []string{"", "a", text(4096), text(4097)} {
		if e := j.Append(data); e != api.ErrNil {
			t.Errorf("Append = %d", e)
		}
		if e := j.Compact(data, data); e != api.ErrNil {
			t.Errorf("Compact = %d", e)
		}
	}
	if e := j.Compact(); e != api.ErrNil {
		t.Errorf("Compact = %d", e)
	}
	if j.Boot() != 0 || j.Lsn() != 0 || j.Room() != 0 {
		t.Errorf("Boot, Lsn, Room = %d, %d, %d", j.Boot(), j.Lsn(), j.Room())
	}
}

func TestZeroJournal(t *testing.T) { // R1: one that Open did not make has no disk
	j := new(Journal)
	if e := j.Append(""); e == api.OK {
		t.Errorf("Append = %d", e)
	}
	if e := j.Compact(); e == api.OK {
		t.Errorf("Compact = %d", e)
	}
	if e := j.Compact("a"); e == api.OK {
		t.Errorf("Compact = %d", e)
	}
	if j.Boot() != 0 || j.Lsn() != 0 || j.Room() != 0 {
		t.Errorf("Boot, Lsn, Room = %d, %d, %d", j.Boot(), j.Lsn(), j.Room())
	}
}

func TestNumbersBurnNoFuse(t *testing.T) { // P8.4: also if it has blown
	s := start(t, 4).add("a")
	s.f.Arm(0)
	s.wantNumbers()
	if s.f.Blown() {
		t.Error("an operation was performed")
	}
	blow(t, s.f)
	s.wantNumbers()
}

func TestTheLastNumber(t *testing.T) { // P8.2, P8.3: up to the record 2^48 - 1; behind it nothing is said, but no call panics (R1)
	for _, first := range []int{topLsn - 1, topLsn} {
		d, f := diskOf(t, 4, api.Head{Seq: 1, Boot: 1, First: first})
		s := sceneOf(t, d, f)
		s.open()
		for s.j.Lsn() < topLsn {
			s.add("r")
		}
		s.j.Append("r")
		s.j.Compact("s")
		s.j.Compact()
		s.wantNumbers()
		s.open()
	}
	d, f := diskOf(t, 4, api.Head{Seq: topSeq - 1, Boot: 1, First: 1}, lay(1, 1, 2, "r")...)
	s := sceneOf(t, d, f)
	s.open()
	s.add("the last header does not matter to it")
	s.j.Compact("s")
	s.j.Compact()
	s.wantNumbers()
}

// wantDead checks that all calls return ErrDead, whatever their arguments are, and that the numbers are as they were.
func (s *scene) wantDead() {
	s.t.Helper()
	before, pending := sectorsOf(s.d), s.d.Pending()
	// First what would be refused without an operation, so that none of these calls makes the journal dead.
	for _, data := range []string{text(4097), text(4096), "", "a"} {
		if e := s.j.Append(data); e != api.ErrDead {
			s.t.Fatalf("Append after ErrDead = %d", e)
		}
		for _, list := range [][]string{nil, {data}, slices.Repeat([]string{data}, s.m.area+1)} {
			if e := s.j.Compact(list...); e != api.ErrDead {
				s.t.Fatalf("Compact after ErrDead = %d", e)
			}
		}
		s.wantNumbers()
	}
	if !slices.Equal(sectorsOf(s.d), before) || !slices.Equal(s.d.Pending(), pending) {
		s.t.Fatal("a call after ErrDead changed the disk")
	}
}

func TestCallsAfterErrDead(t *testing.T) { // P8.2, P8.3, P8.4: also when the fuse is reset, or the disk is full
	between := []func(s *scene){
		func(s *scene) {},
		func(s *scene) { s.f.Reset() },
		func(s *scene) { s.d.SetFull(true) },
		func(s *scene) {
			s.f.Reset()
			s.d.Crash(api.Choice{Keep: math.MaxUint64, Torn: -1})
			s.f.Arm(0)
		},
		func(s *scene) {
			s.f.Reset()
			sceneOf(t, s.d, s.f).open()
		},
	}
	for _, c := range calls() {
		if c.opens {
			continue
		}
		for k := range c.ops {
			for _, do := range between {
				s := start(t, 6).add("a").compact("s").add("b")
				s.f.Arm(k)
				if e := c.do(s); e != api.ErrDead {
					t.Fatalf("%s with a fuse armed with %d = %d", c.name, k, e)
				}
				s.wantNumbers()
				do(s)
				blown := s.f.Blown()
				s.wantDead()
				if s.f.Blown() != blown {
					t.Fatal("a call after ErrDead performed an operation")
				}
			}
		}
	}
}

func TestFuseThatAnotherBlew(t *testing.T) { // P8.2, P8.3, R2: what is refused without an operation is refused as before
	sample := func() *scene {
		s := start(t, 3).add("a")
		blow(t, s.f)
		return s
	}
	refused := func(s *scene, want api.Errno, got api.Errno) {
		t.Helper()
		if got != want {
			t.Fatalf("the call returns %d, want %d", got, want)
		}
		s.wantNumbers()
		if len(s.d.Pending()) != 0 {
			t.Fatal("the disk was changed")
		}
	}
	s := sample()
	refused(s, api.ErrLong, s.j.Append(text(4097)))
	refused(s, api.ErrFull, s.j.Append(text(3*pieceSize)))
	refused(s, api.ErrLong, s.j.Compact("s", text(4097)))
	refused(s, api.ErrFull, s.j.Compact("s", "t", "u", "v"))
	s.d.SetFull(true)
	refused(s, api.ErrFull, s.j.Append("b"))
	s.d.SetFull(false)
	s.f.Reset()
	s.add("no operation of this journal met it")

	s = sample()
	refused(s, api.ErrDead, s.j.Append("b"))
	s.f.Reset()
	s.wantDead()
	s = sample()
	refused(s, api.ErrDead, s.j.Compact())
	s.f.Reset()
	s.wantDead()
}

func TestRandomCalls(t *testing.T) { // P8.1 to P8.4, P8.7, P8.8: every sector after each call, for disks without crashes
	g := generator(2)
	count := map[string]int{}
	for range 300 {
		area := 1 + g.IntN(12)
		s := start(t, area)
		seen := ledger{}
		for range 40 {
			data, list := text(g.IntN(130)), randomList(g)
			fits := parts(data) <= s.m.room() && !s.d.Full()
			switch g.IntN(6) {
			case 0:
				count["open"]++
				s.open()
			case 1:
				if parts(list...) > area {
					count["too large"]++
					s.refusesCompact(api.ErrFull, list...)
					break
				}
				count["compact"]++
				s.compact(list...)
			case 2:
				s.d.SetFull(g.IntN(3) == 0)
			default:
				if !fits {
					count["no room"]++
					s.refusesAppend(api.ErrFull, data)
					break
				}
				count["append"]++
				s.add(data)
			}
			seen.look(t, s.d)
		}
	}
	for _, name := range []string{"open", "too large", "compact", "no room", "append"} {
		if count[name] < 300 {
			t.Errorf("%s: %d times: badly chosen", name, count[name])
		}
	}
}

func randomList(g *rand.Rand) []string {
	var list []string
	for range g.IntN(5) {
		list = append(list, text(g.IntN(100)))
	}
	return list
}

// lent returns a string whose bytes are those of b, and change with them.
func lent(b []byte) string {
	return unsafe.String(unsafe.SliceData(b), len(b))
}

func TestArgumentsAreNotKept(t *testing.T) { // R3
	for _, n := range []int{1, 44, 45, 100} {
		b := []byte(text(n))
		s := start(t, 10)
		if e := s.j.Append(lent(b)); e != api.OK || string(b) != text(n) {
			t.Fatalf("Append = %d, its argument is %q", e, b)
		}
		s.m = s.m.appended(text(n))
		clear(b)
		s.want()
		copy(b, text(n))
		list := []string{lent(b), "t", lent(b)}[:2:3]
		if e := s.j.Compact(list...); e != api.OK || string(b) != text(n) || list[0] != text(n) || list[1] != "t" || list[:3][2] != text(n) {
			t.Fatalf("Compact = %d, its arguments are %q", e, list)
		}
		s.m = s.m.compacted(text(n), "t")
		clear(b)
		clear(list)
		s.want()
		s.add("b")
		s.open()
	}
}

func TestResultsShareNoMemory(t *testing.T) { // R3: with each other, with the journal, and with the sectors that the disk keeps
	var kept [][]byte
	d, _ := newDisk(t, 22)
	sample, _ := diskOf(t, 10, api.Head{Seq: 2, Boot: 1, First: 1, Snaps: 3}, slices.Concat(
		lay(1, 1, 1, "ss"), lay(1, 2, 1, text(50)), lay(1, 3, 1, "uu"), lay(1, 4, 2, text(44)), lay(1, 5, 2, "vv"), lay(1, 6, 2, "ww"))...)
	for i, s := range sectorsOf(sample) {
		kept = append(kept, []byte(s))
		put(t, d, i, lent(kept[i]))
	}
	d.Sync()
	wantSnapshot, wantRecords := []string{"ss", text(50), "uu"}, []string{text(44), "vv", "ww"}
	j, snapshot, records, e := Open(d, 10)
	if e != api.OK || !slices.Equal(snapshot, wantSnapshot) || !slices.Equal(records, wantRecords) {
		t.Fatalf("Open = %q, %q, %d", snapshot, records, e)
	}
	_, snapshot2, records2, _ := Open(d, 10)
	for i, s := range sectorsOf(sample)[2:] {
		if string(kept[2+i]) != s {
			t.Errorf("Open changed the sector %d", 2+i)
		}
		clear(kept[2+i])
	}
	if !slices.Equal(snapshot, wantSnapshot) || !slices.Equal(records, wantRecords) {
		t.Error("the results change with the sectors of the disk")
	}
	clear(append(snapshot, "x", "y", "z")[:cap(snapshot)])
	if !slices.Equal(records, wantRecords) {
		t.Error("the records change with the snapshot")
	}
	clear(append(records, "x")[:cap(records)])
	if !slices.Equal(snapshot2, wantSnapshot) || !slices.Equal(records2, wantRecords) {
		t.Error("results of one call change with those of another one")
	}
	if j.Lsn() != 6 || j.Room() != 3 || j.Boot() != 2 {
		t.Errorf("Boot, Lsn, Room = %d, %d, %d", j.Boot(), j.Lsn(), j.Room())
	}
}

func TestJournalsOfTwoDisks(t *testing.T) { // R6: they know nothing of each other
	a, b := start(t, 4), start(t, 5)
	for range 2 {
		a.add("a")
		b.compact("s").add("b")
		b.open()
	}
	blow(t, a.f)
	if e := a.j.Append("a"); e != api.ErrDead {
		t.Errorf("Append = %d", e)
	}
	b.add("c")
	a.f.Reset()
	a.wantDead()
	a.open()
	a.add("d")
}

func TestSectorsAreThoseOfRecords(t *testing.T) { // P8.2, P8.3: the boot, the numbers and the kinds, as record.Read finds them
	s := start(t, 8).add("a", text(50))
	s.open()
	s.add("b")
	wantRecord := func(at, lsn, boot int, kind uint8, data string) {
		t.Helper()
		f, e := record.Read(s.d, at, 18, lsn, boot)
		if want := (api.Frame{Boot: boot, Lsn: lsn, Parts: parts(data), Kind: kind, Data: data}); f != want || e != api.OK {
			t.Fatalf("the record at %d is %+v, %d, want %+v", at, f, e, want)
		}
	}
	wantRecord(2, 1, 1, 2, "a")
	wantRecord(3, 2, 1, 2, text(50))
	wantRecord(5, 3, 2, 2, "b")
	s.compact("s", text(45)).add("c")
	wantRecord(10, 4, 2, 1, "s")
	wantRecord(11, 5, 2, 1, text(45))
	wantRecord(13, 6, 2, 2, "c")
	if h, e := slots.Load(s.d); h != (api.Head{Seq: 3, Boot: 2, Area: 1, First: 4, Snaps: 2}) || e != api.OK {
		t.Errorf("the header is %+v, %d", h, e)
	}
	s.open()
	s.compact()
	if h, e := slots.Load(s.d); h != (api.Head{Seq: 5, Boot: 3, Area: 0, First: 7, Snaps: 0}) || e != api.OK {
		t.Errorf("the header is %+v, %d", h, e)
	}
	s.add("d")
	wantRecord(2, 7, 3, 2, "d")
	wantRecord(3, 2, 1, 2, text(50))
	s.open()
}
