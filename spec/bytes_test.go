package spec

import (
	"math"
	"slices"
	"strings"
	"testing"

	"sacristan/api"
)

// The reference knows the bytes of a number by itself, and not how an implementation reads them: it takes what the numbers at the beginning could be, and looks whether they are written so.

// wide returns the bytes of a number as chapter 2 has them, but with a width of its own.
func wide(n uint64, width int) string {
	row := []byte{byte(247 + width)}
	for i := width - 1; i >= 0; i-- {
		row = append(row, byte(n>>(8*i)))
	}
	return string(row)
}

// number returns the bytes of a number.
func number(n uint64) string {
	if n < 248 {
		return string([]byte{byte(n)})
	}
	for width := 1; ; width++ {
		if width == 8 || n>>(8*width) == 0 {
			return wide(n, width)
		}
	}
}

// join returns the bytes of numbers, one after another.
func join(row ...uint64) string {
	s := ""
	for _, n := range row {
		s += number(n)
	}
	return s
}

// rowOf returns the numbers of a specification in the order in which they are written.
func rowOf(s api.Spec) []uint64 {
	row := []uint64{uint64(s.ID), uint64(s.Res.CPU), uint64(s.Res.Mem), uint64(s.Res.Disk)}
	row = append(row, uint64(len(s.Ports)))
	for _, port := range s.Ports {
		row = append(row, uint64(port))
	}
	row = append(row, uint64(len(s.Tasks)))
	for _, task := range s.Tasks {
		p, always := task.Policy, uint64(0)
		if p.Always {
			always = 1
		}
		row = append(row, always, uint64(p.Limit), uint64(p.Window), uint64(p.Base), uint64(p.Most), uint64(task.Probes))
	}
	return row
}

// split returns the numbers that s begins with, in whatever widths they are written, but not more of them than a specification has.
func split(s string) []uint64 {
	var row []uint64
	for s != "" && len(row) < 6+maxPorts+6*maxTasks {
		n, end := uint64(s[0]), 1
		if s[0] >= 248 {
			n, end = 0, int(s[0])-246
			if len(s) < end {
				break
			}
			for _, b := range []byte(s[1:end]) {
				n = n*256 + uint64(b)
			}
		}
		row, s = append(row, n), s[end:]
	}
	return row
}

// specOf returns the specification whose numbers a row begins with; false: there is none.
func specOf(row []uint64) (api.Spec, bool) {
	s := api.Spec{}
	if len(row) < 5 || row[4] > maxPorts || uint64(len(row)) < 6+row[4] {
		return s, false
	}
	s.ID, s.Res = int(row[0]), api.Res{CPU: int(row[1]), Mem: int(row[2]), Disk: int(row[3])}
	for _, port := range row[5 : 5+row[4]] {
		s.Ports = append(s.Ports, int(port))
	}
	row = row[5+row[4]:]
	if row[0] > maxTasks || uint64(len(row)) < 1+6*row[0] {
		return s, false
	}
	for part := range slices.Chunk(row[1:1+6*row[0]], 6) {
		if part[0] > 1 {
			return s, false
		}
		policy := api.Policy{Always: part[0] == 1, Limit: int(part[1]), Window: int(part[2]), Base: int(part[3]), Most: int(part[4])}
		s.Tasks = append(s.Tasks, api.TaskSpec{Policy: policy, Probes: int(part[5])})
	}
	return s, true
}

// wantDecode asks whether s begins with the bytes of the only specification that it could be.
func wantDecode(s string) (api.Spec, string, api.Errno) {
	found, ok := specOf(split(s))
	if ok && wantCheck(found) == api.OK {
		if rest, ok := strings.CutPrefix(s, join(rowOf(found)...)); ok {
			return found, rest, api.OK
		}
	}
	return api.Spec{}, "", api.ErrForm
}

// The samples.

// rests are what may come after the bytes of a specification.
func rests() []string {
	return []string{"", "x", "\x00", "\x07", "\x01\x00\x02", "\xf7", "\xf8", "\xff", "\xff\xff\xff\xff\xff\xff\xff\xff\xff", strings.Repeat("\x00", 40), strings.Repeat("sacristan", 1000), join(rowOf(mixed())...)}
}

// bytesOf returns the bytes of a specification, whether or not it is valid.
func bytesOf(s api.Spec) string {
	return join(rowOf(s)...)
}

// few returns the valid specifications whose bytes are changed one by one.
func few() []api.Spec {
	all := []api.Spec{least(), ordinary(), mixed(), largest(), wideTasks(4)}
	g := generator()
	for range 8 {
		all = append(all, random(g))
	}
	return all
}

// huge are numbers that are valid nowhere in a specification, and most of them small if some of their bits are lost, or if they are taken as negative.
var huge = []uint64{
	maxTick + 1, 1<<48 + 1, 1<<62 + 1, math.MaxInt64, 1 << 63, 1<<63 + 1, 1<<63 + 7, 1<<63 + 1<<62, math.MaxUint64 - 7, math.MaxUint64 - 3, math.MaxUint64 - 1, math.MaxUint64,
}

func expectEncode(t *testing.T, s api.Spec) {
	t.Helper()
	want, e := "", wantCheck(s)
	if e == api.OK {
		want = bytesOf(s)
	}
	if got, gotError := Encode(s); got != want || gotError != e {
		t.Errorf("Encode(%+v) = %q, %v, want %q, %v", s, got, gotError, want, e)
	}
}

// expectDecode compares Decode with the reference, and returns the error.
func expectDecode(t *testing.T, s string) api.Errno {
	t.Helper()
	want, wantRest, wantError := wantDecode(s)
	got, rest, e := Decode(s)
	if !same(got, want) || rest != wantRest || e != wantError {
		t.Errorf("Decode(%q) = %+v, %q, %v, want %+v, %q, %v", s, got, rest, e, want, wantRest, wantError)
	}
	return e
}

// expectRead says that Decode reads a specification, and leaves the rest.
func expectRead(t *testing.T, want api.Spec, wantRest, s string) {
	t.Helper()
	if got, rest, e := Decode(s); !same(got, want) || rest != wantRest || e != api.OK {
		t.Errorf("Decode(%q) = %+v, %q, %v, want %+v, %q", s, got, rest, e, want, wantRest)
	}
}

// expectRefused says that Decode returns ErrForm, for s and for s with further bytes.
func expectRefused(t *testing.T, s string) {
	t.Helper()
	for _, rest := range []string{"", "\x00", "\xff", strings.Repeat("\x01", 60)} {
		if got, left, e := Decode(s + rest); !same(got, api.Spec{}) || left != "" || e != api.ErrForm {
			t.Errorf("Decode(%q) = %+v, %q, %v, want ErrForm", s+rest, got, left, e)
		}
	}
}

// The promises of Encode and Decode.

func TestExamplesOfBytes(t *testing.T) { // P13.3
	const bytes = "\x07\x04\x04\x04\x01\x50\x01\x00\x02\x14\x02\x08\x00"
	if got, e := Encode(ordinary()); got != bytes || e != api.OK {
		t.Errorf("Encode(%+v) = %q, %v, want %q", ordinary(), got, e, bytes)
	}
	expectRead(t, ordinary(), "x", bytes+"x")
	if got, rest, e := Decode(bytes[:len(bytes)-1]); !same(got, api.Spec{}) || rest != "" || e != api.ErrForm {
		t.Errorf("Decode without the last byte = %+v, %q, %v, want ErrForm", got, rest, e)
	}
}

func TestBytesOneByOne(t *testing.T) { // P13.3
	const most = "\xfd\x01\x00\x00\x00\x00\x00"
	for _, row := range []struct {
		spec  api.Spec
		bytes []string
	}{
		{least(), []string{"\x00", "\x00\x00\x00", "\x00", "\x01", "\x00\x01\x01\x01\x01", "\x00"}},
		{mixed(), []string{
			"\xfa\x0f\x42\x40", "\xf9\x01\x2c", "\xfa\x01\x11\x70", "\xfc\x02\x00\x00\x00\x00",
			"\x03", "\x16", "\xf9\x01\xbb", "\xf9\x1f\x90", "\x03",
			"\x01", "\x05", "\xf9\x02\x58", "\x0a", "\xf9\x0f\xa0", "\x06",
			"\x00", "\x07", "\xfa\x10\x00\x00", "\xfa\x20\x00\x00", "\xfa\x40\x00\x00", "\xf9\x03\x84",
			"\x01", "\x01", "\x02", "\xf7", "\xf8\xf8", "\x00",
		}},
		{largest(), []string{
			"\xfb\x80\x00\x00\x00", most, most, most,
			"\x08", "\xf9\xff\xf8", "\xf9\xff\xf9", "\xf9\xff\xfa", "\xf9\xff\xfb", "\xf9\xff\xfc", "\xf9\xff\xfd", "\xf9\xff\xfe", "\xf9\xff\xff", "\x04",
			strings.Repeat("\x01\x08"+most+most+most+"\xf9\x03\xe8", 4),
		}},
	} {
		want := strings.Join(row.bytes, "")
		if got, e := Encode(row.spec); got != want || e != api.OK {
			t.Errorf("Encode(%+v) = %q, %v, want %q", row.spec, got, e, want)
		}
		expectRead(t, row.spec, "", want)
	}
}

func TestEncodeOfSamples(t *testing.T) { // P13.3: what is valid, and what is not: the error of Check, and no bytes
	found := map[api.Errno]int{}
	for _, s := range anything() {
		expectEncode(t, s)
		_, e := Encode(s)
		if want := Check(s); e != want {
			t.Errorf("Encode(%+v) has the error %v, Check %v", s, e, want)
		}
		found[e]++
	}
	for _, e := range []api.Errno{api.OK, api.ErrRange, api.ErrOrder, api.ErrLong, api.ErrArg} {
		if found[e] < 5 {
			t.Errorf("the errors are %v: badly chosen", found)
		}
	}
}

func TestEncodeOfFaults(t *testing.T) { // P13.3, R1, R2
	faulty(func(s api.Spec, errors []api.Errno) {
		expectEncode(t, s)
	})
	for _, s := range []api.Spec{{}, {ID: -1}, {Tasks: make([]api.TaskSpec, 5)}, {Ports: make([]int, 1<<16)}} {
		expectEncode(t, s)
	}
}

func TestEncodeOfEachField(t *testing.T) { // P13.3: each number at the edges, if it is valid or not
	encoded := 0
	for _, s := range []api.Spec{least(), ordinary(), mixed(), largest(), wideTasks(4)} {
		for i := range fields(&s) {
			for _, n := range edges {
				c := clone(s)
				*fields(&c)[i] = n
				expectEncode(t, c)
				if wantCheck(c) == api.OK {
					expectRead(t, c, "x", bytesOf(c)+"x")
					encoded++
				}
			}
		}
	}
	if encoded < 500 {
		t.Errorf("%d specifications are valid: badly chosen", encoded)
	}
}

func TestDecodeOfEncode(t *testing.T) { // P13.3, P13.5
	for _, s := range samples() {
		bytes, e := Encode(s)
		if e != api.OK {
			t.Fatalf("Encode(%+v) has the error %v", s, e)
		}
		for _, rest := range rests() {
			expectRead(t, s, rest, bytes+rest)
			expectDecode(t, bytes+rest)
		}
	}
}

func TestEncodeOfDecode(t *testing.T) { // P13.3: what Decode reads, Encode writes
	read := 0
	for _, s := range samples() {
		bytes := bytesOf(s)
		for i := range bytes {
			for _, b := range []byte{0, 1, 2, 5, 247, 248, 255} {
				changed := bytes[:i] + string([]byte{b}) + bytes[i+1:]
				got, rest, e := Decode(changed)
				if e != api.OK {
					continue
				}
				if again, e := Encode(got); again+rest != changed || e != api.OK {
					t.Errorf("Decode(%q) = %+v, %q, but Encode of this is %q, %v", changed, got, rest, again, e)
				}
				read++
			}
		}
	}
	if read < 1000 {
		t.Errorf("%d strings are read: badly chosen", read)
	}
}

func TestDecodeOfBeginnings(t *testing.T) { // P13.3
	for _, s := range samples() {
		bytes := bytesOf(s)
		for end := range len(bytes) {
			if got, rest, e := Decode(bytes[:end]); !same(got, api.Spec{}) || rest != "" || e != api.ErrForm {
				t.Errorf("Decode(%q) = %+v, %q, %v, want ErrForm: it is a beginning of %q", bytes[:end], got, rest, e, bytes)
			}
		}
	}
}

func TestDecodeOfChangedBytes(t *testing.T) { // P13.3: each byte, changed to each other one, left out, or doubled
	found := map[api.Errno]int{}
	for _, s := range few() {
		bytes := bytesOf(s)
		for i := range bytes {
			for b := range 256 {
				changed := bytes[:i] + string([]byte{byte(b)}) + bytes[i+1:]
				e := expectDecode(t, changed)
				expectDecode(t, changed+"\x00\x01\x02")
				found[e]++
				if got, rest, _ := Decode(changed); e == api.OK && changed != bytes && same(got, s) {
					t.Errorf("Decode(%q) = %+v, %q, as that of %q", changed, got, rest, bytes)
				}
			}
			expectDecode(t, bytes[:i]+bytes[i+1:])
			expectDecode(t, bytes[:i]+bytes[i:i+1]+bytes[i:])
			expectDecode(t, bytes[i:])
		}
	}
	if found[api.OK] < 1000 || found[api.ErrForm] < 1000 || len(found) != 2 {
		t.Errorf("the errors are %v: badly chosen", found)
	}
}

func TestDecodeOfNothing(t *testing.T) { // P13.3
	if got, rest, e := Decode(""); !same(got, api.Spec{}) || rest != "" || e != api.ErrForm {
		t.Errorf("Decode of no bytes = %+v, %q, %v, want ErrForm", got, rest, e)
	}
	for b := range 256 {
		for n := range 80 {
			expectDecode(t, strings.Repeat(string([]byte{byte(b)}), n))
		}
	}
}

// lost returns numbers that are valid nowhere, and numbers that are n, which is small, if some of their bits are lost.
func lost(n uint64) []uint64 {
	return append(slices.Clone(huge), n+1<<8, n+1<<16, n+1<<31, n+1<<32, n+1<<48, n+1<<56, n+1<<62, n+1<<63)
}

// replaced returns the bytes of a row, but for the number at i.
func replaced(row []uint64, i int, bytes string) string {
	return join(row[:i]...) + bytes + join(row[i+1:]...)
}

func TestDecodeOfCountsOfPorts(t *testing.T) { // P13.3
	tasks := rowOf(least())[5:]
	for n := range uint64(40) {
		row := []uint64{7, 4, 4, 4, n}
		for i := range n {
			row = append(row, 80+i)
		}
		bytes := join(append(row, tasks...)...)
		if n <= maxPorts {
			got, _, e := Decode(bytes)
			if e != api.OK || len(got.Ports) != int(n) {
				t.Errorf("Decode(%q) = %+v, %v, want %d ports", bytes, got, e, n)
			}
			continue
		}
		expectRefused(t, bytes)
	}
	for _, s := range few() {
		row := rowOf(s)
		for _, n := range append(lost(row[4]), 9, 10, 16, 247, 248, 255, 256, 257, 264, 1<<16, 1<<31, 1<<32, 1<<32+8, maxTick) {
			expectRefused(t, replaced(row, 4, number(n)))
		}
		for n := range uint64(maxPorts + 1) { // another count than there are
			expectDecode(t, replaced(row, 4, number(n))+strings.Repeat("\x01", 60))
		}
	}
}

func TestDecodeOfCountsOfTasks(t *testing.T) { // P13.3
	for n := range 40 {
		bytes := bytesOf(wideTasks(n))
		if n >= 1 && n <= maxTasks {
			expectRead(t, wideTasks(n), "", bytes)
			continue
		}
		expectRefused(t, bytes)
	}
	for _, s := range few() {
		row, at := rowOf(s), 5+len(s.Ports)
		for _, n := range append(lost(row[at]), 0, 5, 6, 16, 247, 248, 255, 256, 257, 260, 1<<16, 1<<31, 1<<32, 1<<32+4, maxTick) {
			expectRefused(t, replaced(row, at, number(n)))
		}
		for n := range uint64(maxTasks + 1) { // another count than there are
			expectDecode(t, replaced(row, at, number(n))+strings.Repeat("\x01", 60))
		}
	}
}

func TestDecodeOfAlways(t *testing.T) { // P13.3: of each task
	for _, s := range few() {
		row := rowOf(s)
		for i := range s.Tasks {
			at := 6 + len(s.Ports) + 6*i
			for n := range uint64(2) {
				want := clone(s)
				want.Tasks[i].Policy.Always = n == 1
				expectRead(t, want, "", replaced(row, at, number(n)))
			}
			for n := uint64(2); n < 600; n++ {
				expectRefused(t, replaced(row, at, number(n)))
			}
			for _, n := range append(lost(0), lost(1)...) {
				expectRefused(t, replaced(row, at, number(n)))
			}
		}
	}
}

func TestDecodeOfOtherWidths(t *testing.T) { // P13.3: a number is written with more bytes than it needs, or too few are there
	for _, s := range few() {
		row := rowOf(s)
		for i, n := range row {
			for width := 1; width <= 8; width++ {
				if bytes := wide(n, width); bytes != number(n) && (width == 8 || n>>(8*width) == 0) {
					expectRefused(t, replaced(row, i, bytes))
				}
			}
			if bytes := number(n); len(bytes) > 1 {
				expectDecode(t, replaced(row, i, bytes[:len(bytes)-1]))
				expectDecode(t, replaced(row, i, bytes[1:]))
			}
		}
	}
}

func TestDecodeOfOtherNumbers(t *testing.T) { // P13.3: each number at the edges
	found := map[api.Errno]int{}
	for _, s := range few() {
		row := rowOf(s)
		for i, before := range row {
			for _, n := range edges {
				found[expectDecode(t, replaced(row, i, number(uint64(n)))+"\x00")]++
			}
			for _, n := range huge {
				expectRefused(t, replaced(row, i, number(n)))
			}
			for _, more := range []uint64{1 << 41, 1 << 48, 1 << 56, 1 << 62, 1 << 63} { // bits that may be lost
				expectRefused(t, replaced(row, i, number(before+more)))
			}
		}
	}
	if found[api.OK] < 1000 || found[api.ErrForm] < 1000 || len(found) != 2 {
		t.Errorf("the errors are %v: badly chosen", found)
	}
}

func TestDecodeOfWhatIsNotValid(t *testing.T) { // P13.3: the bytes of a specification that Check refuses, whatever its error is
	found := map[api.Errno]int{}
	expectFault := func(s api.Spec) {
		if e := Check(s); e != api.OK {
			expectRefused(t, bytesOf(s))
			found[e]++
		}
	}
	for _, s := range anything() {
		expectFault(s)
	}
	faulty(func(s api.Spec, errors []api.Errno) {
		expectFault(s)
	})
	for _, e := range []api.Errno{api.ErrRange, api.ErrOrder, api.ErrLong, api.ErrArg} {
		if found[e] < 5 {
			t.Errorf("the errors are %v: badly chosen", found)
		}
	}
}

func TestDecodeOfShortStrings(t *testing.T) { // P13.3: all strings of 12 bytes that are 0, 1 or 2
	const length = 12
	found := map[api.Errno]int{}
	b := make([]byte, length)
	for done := false; !done; {
		found[expectDecode(t, string(b))]++
		done = true
		for i := range b {
			if b[i]++; b[i] < 3 {
				done = false
				break
			}
			b[i] = 0
		}
	}
	if found[api.OK] < 1000 || found[api.ErrForm] < 1000 || len(found) != 2 {
		t.Errorf("the errors are %v: badly chosen", found)
	}
}

func TestDecodeOfRandomStrings(t *testing.T) { // P13.3: numbers that are likely to be read, some of which are written as they should not be
	found := map[api.Errno]int{}
	g := generator()
	for range 200000 {
		row := rowOf(spoiled(g, random(g)))
		if g.IntN(3) == 0 {
			row = rowOf(random(g))
		}
		s := ""
		for _, n := range row {
			switch g.IntN(100) {
			case 0:
				s += wide(n, 1+g.IntN(8))
			case 1:
				s += number(uint64(edges[g.IntN(len(edges))]))
			case 2:
				s += number(n) + number(n)
			default:
				s += number(n)
			}
		}
		found[expectDecode(t, s[:len(s)-g.IntN(2)*g.IntN(len(s))/8])]++
	}
	if found[api.OK] < 10000 || found[api.ErrForm] < 10000 || len(found) != 2 {
		t.Errorf("the errors are %v: badly chosen", found)
	}
}

func TestDecodeReturnsNewMemory(t *testing.T) { // R3
	for _, s := range samples() {
		bytes := bytesOf(s) + "x"
		first, _, _ := Decode(bytes)
		second, _, _ := Decode(bytes)
		scribble(second)
		if !same(first, s) {
			t.Fatalf("two results of Decode(%q) share memory", bytes)
		}
		expectRead(t, s, "x", bytes)
	}
}

func TestBytesAreNotTheBeginningOfOthers(t *testing.T) { // P13.5
	all := samples()
	g := generator()
	for range 5000 {
		s := random(g)
		all = append(all, s)
		for _, c := range []api.Spec{spoiled(g, s), spoiled(g, s), changes(s)[g.IntN(20)]} {
			if wantCheck(c) == api.OK {
				all = append(all, c)
			}
		}
	}
	written := map[string]api.Spec{}
	for _, s := range all {
		bytes, e := Encode(s)
		if e != api.OK {
			t.Fatalf("Encode(%+v) has the error %v", s, e)
		}
		if other, ok := written[bytes]; ok && !same(other, s) {
			t.Errorf("%q are the bytes of %+v and of %+v", bytes, s, other)
		}
		written[bytes] = s
	}
	var sorted []string
	for bytes := range written {
		sorted = append(sorted, bytes)
	}
	slices.Sort(sorted)
	// All strings that begin with another one come right after it.
	for i := range sorted[1:] {
		if strings.HasPrefix(sorted[i+1], sorted[i]) {
			t.Errorf("the bytes %q of %+v are the beginning of %q, those of %+v", sorted[i], written[sorted[i]], sorted[i+1], written[sorted[i+1]])
		}
	}
	if len(sorted) < 5000 {
		t.Errorf("there are %d different specifications: badly chosen", len(sorted))
	}
}

func TestBytesAreFew(t *testing.T) { // P13.6
	const longest = 156 // an ID of 5 bytes, 3 amounts and 12 ticks of 7, 8 ports and 4 Probes of 3, and 10 small numbers of 1
	all := samples()
	g := generator()
	for range 20000 {
		all = append(all, random(g))
	}
	for _, s := range all {
		bytes, e := Encode(s)
		if e != api.OK || len(bytes) > 200 || len(bytes) > longest {
			t.Errorf("Encode(%+v) = %q, %v, which is %d bytes", s, bytes, e, len(bytes))
		}
	}
	if bytes, e := Encode(largest()); e != api.OK || len(bytes) != longest {
		t.Errorf("the largest specification has %d bytes, error %v, want %d", len(bytes), e, longest)
	}
}

func TestSeveralSpecifications(t *testing.T) { // P13.7
	g := generator()
	all := samples()
	for range 500 {
		var list []api.Spec
		s := ""
		for range g.IntN(12) {
			x := all[g.IntN(len(all))]
			bytes, e := Encode(x)
			if e != api.OK {
				t.Fatalf("Encode(%+v) has the error %v", x, e)
			}
			list, s = append(list, x), s+bytes
		}
		rest := s
		for _, want := range list {
			got, left, e := Decode(rest)
			if e != api.OK || !same(got, want) {
				t.Fatalf("Decode(%q) = %+v, %q, %v, want %+v", rest, got, left, e, want)
			}
			rest = left
		}
		if rest != "" {
			t.Fatalf("of %d specifications %q is left", len(list), rest)
		}
	}
}

func TestSeveralSpecificationsAndAFault(t *testing.T) { // P13.3, P13.7: what comes after a specification does not matter to it
	bad := ordinary()
	bad.Tasks[0].Probes = probes + 1
	for _, s := range few() {
		first, second := bytesOf(s), bytesOf(bad)
		expectRead(t, s, second+first, first+second+first)
		expectRefused(t, second+first)
	}
}
