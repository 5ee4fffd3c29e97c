package frame

import (
	"cmp"
	"encoding/binary"
	"fmt"
	"hash/crc32"
	"math"
	"math/rand/v2"
	"strings"
	"testing"

	"sacristan/api"
)

// The places of the chapter's table.
const (
	size    = 80
	nameEnd = 11 // Boot, Lsn and Part are the bytes before it
	countAt = 13
	sumAt   = 14
	dataAt  = 18
	tailAt  = 69

	topBoot  = 1<<32 - 1
	topLsn   = 1<<48 - 1
	topParts = 255
	topData  = 44
)

func generator() *rand.Rand {
	return rand.New(rand.NewPCG(5, 80))
}

func randomString(g *rand.Rand, n int) string {
	b := make([]byte, n)
	for i := range b {
		b[i] = byte(g.Uint32())
	}
	return string(b)
}

// lay returns the bytes of the chapter's table, also of a frame that is not valid, as long as it has room; it does without crc and pack.
func lay(f api.Frame) []byte {
	b := make([]byte, size)
	binary.BigEndian.PutUint32(b, uint32(f.Boot))
	binary.BigEndian.PutUint16(b[4:], uint16(f.Lsn>>32))
	binary.BigEndian.PutUint32(b[6:], uint32(f.Lsn))
	b[10], b[11], b[12], b[countAt] = byte(f.Part), byte(f.Parts), f.Kind, byte(len(f.Data))
	copy(b[dataAt:], f.Data)
	seal(b, string(b[:sumAt])+f.Data)
	finish(b)
	return b
}

// seal makes the checksum that of a string.
func seal(b []byte, of string) {
	binary.BigEndian.PutUint32(b[sumAt:], crc32.ChecksumIEEE([]byte(of)))
}

// finish makes the end that of the beginning.
func finish(b []byte) {
	copy(b[tailAt:], b[:nameEnd])
}

func isValid(f api.Frame) bool {
	return f.Boot >= 1 && f.Boot <= topBoot && f.Lsn >= 1 && f.Lsn <= topLsn && f.Parts >= 1 && f.Parts <= topParts &&
		f.Part >= 0 && f.Part < f.Parts && len(f.Data) <= topData
}

// frameOf returns the frame of a sector as the table says.
func frameOf(s string) (api.Frame, bool) {
	if len(s) != size || s[countAt] > topData {
		return api.Frame{}, false
	}
	b := []byte(s)
	f := api.Frame{
		Boot: int(binary.BigEndian.Uint32(b)),
		Lsn:  int(binary.BigEndian.Uint64(b[2:]) & topLsn),
		Part: int(b[10]), Parts: int(b[11]), Kind: b[12],
		Data: s[dataAt : dataAt+int(b[countAt])],
	}
	if !isValid(f) || string(lay(f)) != s {
		return api.Frame{}, false
	}
	return f, true
}

// boots, lsns and parts are numbers of valid frames: the least and the greatest ones, and those at which a byte carries.
func boots() []int {
	return []int{1, 2, 127, 128, 255, 256, 257, 65535, 65536, 1<<24 - 1, 1 << 24, 1 << 31, topBoot - 1, topBoot}
}

func lsns() []int {
	return append(boots(), 1<<32, 1<<32+1, 1<<40-1, 1<<40, 1<<47, topLsn-1, topLsn)
}

func parts() [][2]int { // Part, Parts
	return [][2]int{{0, 1}, {0, 2}, {1, 2}, {0, 255}, {1, 255}, {127, 128}, {128, 129}, {253, 255}, {254, 255}}
}

func datas() []string {
	g := generator()
	return []string{
		"", "\x00", "a", "ab", "\x00\x00\x00", "a\x00", "\x00a", "é日", "\xff", strings.Repeat("\xff", topData), strings.Repeat("\x00", topData),
		strings.Repeat("x", topData), strings.Repeat("x", topData-1) + "\x00", randomString(g, 43), randomString(g, topData),
	}
}

// samples are valid frames: each field with each of its values, the others being usual or extreme, and random ones.
func samples() []api.Frame {
	var list []api.Frame
	for _, f := range []api.Frame{
		{Boot: 1, Lsn: 2, Parts: 1, Kind: 3, Data: "ab"},
		{Boot: 1, Lsn: 1, Parts: 1},
		{Boot: topBoot, Lsn: topLsn, Part: 254, Parts: 255, Kind: 255, Data: strings.Repeat("\xff", topData)},
	} {
		list = append(list, f)
		for _, n := range boots() {
			list = append(list, with(f, func(f *api.Frame) { f.Boot = n }))
		}
		for _, n := range lsns() {
			list = append(list, with(f, func(f *api.Frame) { f.Lsn = n }))
		}
		for _, p := range parts() {
			list = append(list, with(f, func(f *api.Frame) { f.Part, f.Parts = p[0], p[1] }))
		}
		for _, k := range []uint8{0, 1, 9, 127, 128, 255} {
			list = append(list, with(f, func(f *api.Frame) { f.Kind = k }))
		}
		for _, d := range datas() {
			list = append(list, with(f, func(f *api.Frame) { f.Data = d }))
		}
	}
	g := generator()
	for range 50 {
		list = append(list, randomFrame(g))
	}
	return list
}

func randomFrame(g *rand.Rand) api.Frame {
	count := 1 + g.IntN(topParts)
	return api.Frame{
		Boot: 1 + g.IntN(topBoot)>>g.IntN(32), Lsn: 1 + g.IntN(topLsn)>>g.IntN(48),
		Part: g.IntN(count), Parts: count, Kind: uint8(g.Uint32()), Data: randomString(g, g.IntN(topData+1)),
	}
}

// few are valid frames with no, some and the most bytes of Data, for tests that change each of their sectors in many ways.
func few() []api.Frame {
	g := generator()
	return []api.Frame{
		{Boot: 1, Lsn: 1, Parts: 1},
		{Boot: 1, Lsn: 2, Parts: 1, Kind: 3, Data: "ab"},
		{Boot: 0x01020304, Lsn: 0x05060708090a, Part: 11, Parts: 12, Kind: 13, Data: randomString(g, 43)},
		{Boot: 7, Lsn: 300, Part: 1, Parts: 2, Kind: 6, Data: strings.Repeat("\x00", 5)},
		{Boot: topBoot, Lsn: topLsn, Part: 254, Parts: 255, Kind: 255, Data: randomString(g, topData)},
	}
}

// with returns a frame that is changed.
func with(f api.Frame, change func(*api.Frame)) api.Frame {
	change(&f)
	return f
}

func mustEncode(t *testing.T, f api.Frame) string {
	t.Helper()
	s, e := Encode(f)
	if e != api.OK {
		t.Fatalf("Encode(%+v) = %d", f, e)
	}
	return s
}

func wantFrame(t *testing.T, s string, want api.Frame) {
	t.Helper()
	if f, e := Decode(s); f != want || e != api.OK {
		t.Fatalf("Decode(%q) = %+v, %d, want %+v", s, f, e, want)
	}
}

func wantBad(t *testing.T, s, what string) {
	t.Helper()
	if f, e := Decode(s); f != (api.Frame{}) || e != api.ErrBad {
		t.Fatalf("%s: Decode(%q) = %+v, %d, want ErrBad", what, s, f, e)
	}
}

func wantRefused(t *testing.T, f api.Frame, want api.Errno) {
	t.Helper()
	if s, e := Encode(f); s != "" || e != want {
		t.Errorf("Encode(%+v) = %q, %d, want %d", f, s, e, want)
	}
}

func TestExamples(t *testing.T) { // P5.1, P5.2
	f := api.Frame{Boot: 1, Lsn: 2, Part: 0, Parts: 1, Kind: 3, Data: "ab"}
	head := "\x00\x00\x00\x01" + "\x00\x00\x00\x00\x00\x02" + "\x00\x01\x03\x02"
	sum := binary.BigEndian.AppendUint32(nil, crc32.ChecksumIEEE([]byte(head+"ab")))
	s := head + string(sum) + "ab" + strings.Repeat("\x00", 49) + "\x00\x00\x00\x01\x00\x00\x00\x00\x00\x02\x00"
	if got := mustEncode(t, f); got != s {
		t.Errorf("Encode = %q, want %q", got, s)
	}
	wantFrame(t, s, f)
	wantRefused(t, api.Frame{Boot: 0, Lsn: 2, Parts: 1}, api.ErrArg)
	wantRefused(t, api.Frame{Boot: 1, Lsn: 2, Part: 1, Parts: 1}, api.ErrArg)
	wantRefused(t, api.Frame{Boot: 1, Lsn: 2, Parts: 1, Data: strings.Repeat("x", 45)}, api.ErrLong)
	wantBad(t, strings.Repeat("\x00", size), "zeros")
	wantBad(t, s[:size-1], "without its last byte")
	wantBad(t, s[:size-1]+"\x01", "with the last byte 1")
}

func TestEncodeIsTheDefinition(t *testing.T) { // P5.1
	for _, f := range samples() {
		if got, want := mustEncode(t, f), string(lay(f)); got != want {
			t.Errorf("Encode(%+v) = %q, want %q", f, got, want)
		}
	}
}

func TestEncodeOfAllKindsAndLengths(t *testing.T) { // P5.1, P5.2
	g := generator()
	for k := range 256 {
		for n := range topData + 1 {
			f := api.Frame{Boot: 3, Lsn: 4, Part: 5, Parts: 6, Kind: uint8(k), Data: randomString(g, n)}
			s := mustEncode(t, f)
			if want := string(lay(f)); s != want {
				t.Fatalf("Encode(%+v) = %q, want %q", f, s, want)
			}
			wantFrame(t, s, f)
		}
	}
}

// outside are frames of which one number is not valid, by name.
func outside() map[string]api.Frame {
	list := map[string]api.Frame{}
	for i, f := range few() {
		add := func(name string, n int, change func(*api.Frame)) {
			list[fmt.Sprintf("%d: %s %d", i, name, n)] = with(f, change)
		}
		for _, n := range []int{0, -1, math.MinInt, topBoot + 1, topBoot + 2, topLsn, math.MaxInt} {
			add("Boot", n, func(f *api.Frame) { f.Boot = n })
		}
		for _, n := range []int{0, -1, math.MinInt, topLsn + 1, topLsn + 2, math.MaxInt} {
			add("Lsn", n, func(f *api.Frame) { f.Lsn = n })
		}
		for _, n := range []int{0, -1, -255, math.MinInt, 256, 257, 512, math.MaxInt} {
			add("Parts", n, func(f *api.Frame) { f.Part, f.Parts = 0, n })
		}
		for _, n := range []int{-1, -255, -256, math.MinInt, f.Parts, f.Parts + 1, 255, 256, math.MaxInt} {
			add("Part", n, func(f *api.Frame) { f.Part = n })
		}
		// Where both are at fault, Part is less than Parts, too, or is not.
		for _, n := range []int{255, 256, 300, math.MaxInt} {
			add("Part 255, Parts", n, func(f *api.Frame) { f.Part, f.Parts = 255, n })
		}
		add("Part -2, Parts", -1, func(f *api.Frame) { f.Part, f.Parts = -2, -1 })
	}
	return list
}

func TestEncodeRefusesNumbers(t *testing.T) { // P5.1
	for name, f := range outside() {
		if s, e := Encode(f); s != "" || e != api.ErrArg {
			t.Errorf("%s: %q, %d, want ErrArg", name, s, e)
		}
	}
	wantRefused(t, api.Frame{}, api.ErrArg)
}

func TestEncodeOfAllParts(t *testing.T) { // P5.1
	for count := -2; count <= 258; count++ {
		for part := -2; part <= 258; part++ {
			f := api.Frame{Boot: 1, Lsn: 1, Part: part, Parts: count}
			s, e := Encode(f)
			if isValid(f) {
				if e != api.OK || s != string(lay(f)) {
					t.Fatalf("Part %d, Parts %d: %q, %d", part, count, s, e)
				}
				continue
			}
			if e != api.ErrArg || s != "" {
				t.Fatalf("Part %d, Parts %d: %q, %d, want ErrArg", part, count, s, e)
			}
		}
	}
}

func TestEncodeRefusesLongData(t *testing.T) { // P5.1, R2: the length comes before the numbers
	for _, n := range []int{topData + 1, topData + 2, 51, 52, 62, 255, 256, 256 + topData, 4096} {
		data := strings.Repeat("x", n)
		for _, f := range few() {
			wantRefused(t, with(f, func(f *api.Frame) { f.Data = data }), api.ErrLong)
		}
		for _, f := range outside() {
			wantRefused(t, with(f, func(f *api.Frame) { f.Data = data }), api.ErrLong)
		}
		wantRefused(t, api.Frame{Data: data}, api.ErrLong)
	}
}

func TestDecodeReadsEncode(t *testing.T) { // P5.2, P5.3
	for _, f := range samples() {
		wantFrame(t, mustEncode(t, f), f)
	}
}

func TestEncodeMakesWhatDecodeRead(t *testing.T) { // P5.3
	for _, f := range samples() {
		s := string(lay(f))
		got, e := Decode(s)
		if e != api.OK {
			t.Fatalf("Decode(%q) = %d", s, e)
		}
		if again := mustEncode(t, got); again != s {
			t.Errorf("Encode(Decode(%q)) = %q", s, again)
		}
	}
}

func TestDecodeOfLengths(t *testing.T) { // P5.2: the first and the last bytes of a sector, and more than one
	for _, f := range few() {
		s := mustEncode(t, f)
		for n := range size {
			wantBad(t, s[:n], "the first bytes")
			wantBad(t, s[n+1:], "the last bytes")
			wantBad(t, s[:n]+s[n+1:], "without a byte")
			wantBad(t, s[:n]+"\x00"+s[n:], "with another byte")
		}
		for _, more := range []string{"\x00", "a", s[:1], s} {
			wantBad(t, s+more, "with bytes after it")
			wantBad(t, more+s, "with bytes before it")
		}
	}
}

func TestDecodeOfOneByte(t *testing.T) { // P5.2: strings of equal bytes
	for b := range 256 {
		for _, n := range []int{1, size - 1, size, size + 1, 4096} {
			wantBad(t, strings.Repeat(string([]byte{byte(b)}), n), "equal bytes")
		}
	}
}

func TestDecodeOfAChangedByte(t *testing.T) { // P5.2: each byte with each other value
	for _, f := range few() {
		s := mustEncode(t, f)
		for i := range size {
			for change := range 255 {
				b := []byte(s)
				b[i] ^= byte(change + 1)
				wantBad(t, string(b), fmt.Sprintf("the byte %d of the sector of %+v", i, f))
			}
		}
	}
}

func TestDecodeRefusesNumbers(t *testing.T) { // P5.2: the checksum and the end are right
	for _, f := range few() {
		for _, bad := range []api.Frame{
			with(f, func(f *api.Frame) { f.Boot = 0 }),
			with(f, func(f *api.Frame) { f.Lsn = 0 }),
			with(f, func(f *api.Frame) { f.Boot, f.Lsn = 0, 0 }),
			with(f, func(f *api.Frame) { f.Part, f.Parts = 0, 0 }),
			with(f, func(f *api.Frame) { f.Part = f.Parts }),
			with(f, func(f *api.Frame) { f.Part = 255 }),
		} {
			wantBad(t, string(lay(bad)), "not valid")
		}
	}
	wantBad(t, string(lay(api.Frame{})), "zeros with a checksum")
}

func TestDecodeOfAllParts(t *testing.T) { // P5.2
	for count := range 256 {
		for part := range 256 {
			f := api.Frame{Boot: 1, Lsn: 1, Part: part, Parts: count, Data: "a"}
			if s := string(lay(f)); isValid(f) {
				wantFrame(t, s, f)
			} else {
				wantBad(t, s, "not valid")
			}
		}
	}
}

func TestDecodeRefusesLongData(t *testing.T) { // P5.2: Data that would reach into the zeros, into the end, and beyond
	for _, f := range few() {
		for n := topData + 1; n <= 255; n++ {
			for _, fill := range []string{"\x00", "x"} {
				f.Data = strings.Repeat(fill, n)
				b := lay(f)
				wantBad(t, string(b), "long")
				// The checksum may be taken of as much as there is, in whatever way that is cut.
				for end := dataAt; end <= size; end++ {
					seal(b, string(b[:sumAt])+string(b[dataAt:end]))
					wantBad(t, string(b), "long, with a checksum of what there is")
				}
			}
		}
	}
}

func TestDecodeRefusesOtherChecksums(t *testing.T) { // P5.2: of other bytes, and in another form
	for _, f := range few()[1:] {
		b := lay(f)
		want := binary.BigEndian.Uint32(b[sumAt:])
		head, data := string(b[:sumAt]), f.Data
		for _, of := range []string{"", head, data, head[:countAt] + data, head[:12] + data, head[:nameEnd] + data, head + string(b[dataAt:62]),
			head + string(b[dataAt:tailAt]), head + string(b[dataAt:]), data + head, head + "\x00\x00\x00\x00" + data} {
			seal(b, of)
			if binary.BigEndian.Uint32(b[sumAt:]) != want {
				wantBad(t, string(b), "checksum of other bytes")
			}
		}
		for _, sum := range []uint32{0, ^want, math.MaxUint32, want + 1, want - 1} {
			binary.BigEndian.PutUint32(b[sumAt:], sum)
			wantBad(t, string(b), "another checksum")
		}
		binary.LittleEndian.PutUint32(b[sumAt:], want)
		wantBad(t, string(b), "checksum with its lowest byte first")
		binary.BigEndian.PutUint32(b[sumAt:], want)
		wantFrame(t, string(b), f)
	}
}

func TestDecodeRefusesBytesAfterData(t *testing.T) { // P5.2: also where the checksum covers them
	for _, f := range few() {
		for at := dataAt + len(f.Data); at < tailAt; at++ {
			for _, x := range []byte{1, 128, 255} {
				b := lay(f)
				b[at] = x
				wantBad(t, string(b), "not zeros")
				seal(b, string(b[:sumAt])+string(b[dataAt:at+1]))
				wantBad(t, string(b), "not zeros, with a checksum of them")
			}
		}
	}
}

// names are frames that differ in Boot, Lsn or Part, and in nothing else if same says so.
func names(same bool) []api.Frame {
	g := generator()
	var list []api.Frame
	for _, boot := range []int{1, 2, 256, topBoot} {
		for _, lsn := range []int{1, 255, 256, topLsn} {
			for _, part := range []int{0, 1, 254} {
				f := api.Frame{Boot: boot, Lsn: lsn, Part: part, Parts: 255, Kind: 2, Data: "the same text"}
				if !same {
					f.Parts, f.Kind, f.Data = part+1+g.IntN(topParts-part), uint8(g.Uint32()), randomString(g, g.IntN(topData+1))
				}
				list = append(list, f)
			}
		}
	}
	return list
}

// wantTorn checks the sectors that begin as first and end as second: none is that of a frame, unless it is one of these as a whole.
func wantTorn(t *testing.T, first, second string) {
	t.Helper()
	for n := range size + 1 {
		s := first[:n] + second[n:]
		if s == first || s == second {
			continue
		}
		wantBad(t, s, fmt.Sprintf("torn after %d bytes", n))
		// Without a look at the checksum: the end is not that of the beginning.
		if s[:nameEnd] == s[tailAt:] {
			t.Fatalf("torn after %d bytes, %q ends as it begins", n, s)
		}
	}
}

func TestTornOverZeros(t *testing.T) { // P5.4
	zeros := strings.Repeat("\x00", size)
	for _, f := range append(samples(), names(false)...) {
		s := mustEncode(t, f)
		wantTorn(t, s, zeros)
		// The whole sector is there as soon as what is missing is zeros.
		for n := range size + 1 {
			if strings.TrimLeft(s[n:], "\x00") == "" {
				wantFrame(t, s[:n]+zeros[n:], f)
			}
		}
	}
}

func TestTornOverOthers(t *testing.T) { // P5.4: with the same Data and checksums that would do, and with others
	for _, same := range []bool{true, false} {
		list := names(same)
		for i, f := range list {
			for j, g := range list {
				if i != j {
					wantTorn(t, mustEncode(t, f), mustEncode(t, g))
				}
			}
		}
	}
}

func TestTornOverNearOnes(t *testing.T) { // P5.4: names that differ in one bit
	f := api.Frame{Boot: 0x10203040, Lsn: 0x102030405060, Part: 64, Parts: 255, Kind: 1, Data: "ab"}
	s := mustEncode(t, f)
	for bit := range 48 {
		g := f
		g.Lsn ^= 1 << bit
		others := []api.Frame{g}
		if bit < 32 {
			g = f
			g.Boot ^= 1 << bit
			others = append(others, g)
		}
		if bit < 7 {
			g = f
			g.Part ^= 1 << bit
			others = append(others, g)
		}
		for _, g := range others {
			wantTorn(t, s, mustEncode(t, g))
			wantTorn(t, mustEncode(t, g), s)
		}
	}
}

// changed returns a sector of which the bits from the bit at on that pattern has are inverted, the bytes 0 to 13 and n bytes of Data being counted one after the other, but for those of the byte 13; and whether there is any.
func changed(s string, n, at int, pattern uint32) ([]byte, bool) {
	b := []byte(s)
	some := false
	for i := range 32 {
		place, bit := (at+i)/8, (at+i)%8
		if pattern>>i&1 == 0 || place == countAt || place >= sumAt+n {
			continue
		}
		if place > countAt {
			place += dataAt - sumAt
		}
		b[place] ^= 1 << bit
		some = true
	}
	return b, some
}

func patterns(g *rand.Rand) []uint32 {
	list := []uint32{0xFFFFFFFF, 0xEDB88320, 0x04C11DB7, 0xDB710641, 0x80000001}
	for i := range 32 {
		list = append(list, 1<<i, 1|1<<i, 0xFFFFFFFF>>i)
	}
	for range 60 {
		list = append(list, g.Uint32(), g.Uint32()|0x80000001)
	}
	return list
}

func TestChangesWithin32Bits(t *testing.T) { // P5.5: alone, and with the end changed likewise, so that only the checksum tells
	g := generator()
	for _, f := range few() {
		s := mustEncode(t, f)
		for at := range 8 * (sumAt + len(f.Data)) {
			for _, p := range patterns(g) {
				b, some := changed(s, len(f.Data), at, p)
				if !some {
					continue
				}
				wantBad(t, string(b), fmt.Sprintf("the bits %#x from %d on", p, at))
				finish(b)
				wantBad(t, string(b), fmt.Sprintf("the bits %#x from %d on, and the end", p, at))
			}
		}
	}
}

func TestChangedSectorsAreTold(t *testing.T) { // P5.5: a change that the checksum follows is another frame
	for _, f := range few() {
		b := lay(f)
		b[12] ^= 1
		seal(b, string(b[:sumAt])+f.Data)
		wantFrame(t, string(b), with(f, func(f *api.Frame) { f.Kind ^= 1 }))
	}
}

func compareNames(f, g api.Frame) int {
	return cmp.Or(cmp.Compare(f.Boot, g.Boot), cmp.Compare(f.Lsn, g.Lsn), cmp.Compare(f.Part, g.Part))
}

func TestSectorsAreOrdered(t *testing.T) { // P5.6: whatever Parts, Kind and Data are
	list := append(samples(), names(true)...)
	list = append(list, names(false)...)
	var sectors []string
	for _, f := range list {
		sectors = append(sectors, mustEncode(t, f))
	}
	for i, f := range list {
		for j, g := range list {
			want := compareNames(f, g)
			if got := strings.Compare(sectors[i], sectors[j]); want != 0 && got != want {
				t.Errorf("the sectors of %+v and %+v compare as %d, want %d", f, g, got, want)
			}
		}
	}
}

// spoiled returns a sector that random changes were made to, some of which keep it whole.
func spoiled(g *rand.Rand, list []api.Frame) string {
	b := lay(list[g.IntN(len(list))])
	for range g.IntN(3) {
		switch g.IntN(3) {
		case 0:
			b[g.IntN(size)] = byte(g.Uint32())
		case 1:
			copy(b[g.IntN(size):], lay(list[g.IntN(len(list))])[g.IntN(size):])
		case 2:
			copy(b[g.IntN(countAt+1):countAt+1], randomString(g, 1+g.IntN(4)))
		}
	}
	if g.IntN(4) > 0 {
		finish(b)
	}
	if g.IntN(4) > 0 {
		seal(b, string(b[:sumAt])+string(b[dataAt:min(dataAt+int(b[countAt]), size)]))
	}
	return string(b[:size-g.IntN(20)/19])
}

func TestDecodeIsTheDefinition(t *testing.T) { // P5.2, P5.3
	g, list := generator(), samples()
	whole := 0
	const tries = 100000
	for range tries {
		s := spoiled(g, list)
		want, ok := frameOf(s)
		if !ok {
			wantBad(t, s, "spoiled")
			continue
		}
		whole++
		wantFrame(t, s, want)
		if again := mustEncode(t, want); again != s {
			t.Fatalf("Encode(%+v) = %q, want %q", want, again, s)
		}
	}
	if whole < tries/20 || whole > tries*19/20 {
		t.Errorf("%d of %d sectors are whole: the changes are badly chosen", whole, tries)
	}
}

func TestCallsKeepNothing(t *testing.T) { // R6
	list := samples()
	for i, f := range list {
		first := mustEncode(t, f)
		other := mustEncode(t, list[(i+1)%len(list)])
		Decode(other[:40])
		if again := mustEncode(t, f); again != first {
			t.Errorf("Encode(%+v) = %q, then %q", f, first, again)
		}
		wantFrame(t, first, f)
	}
}
