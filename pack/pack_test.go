package pack

import (
	"math"
	"math/big"
	"math/rand/v2"
	"strings"
	"testing"

	"sacristan/api"
)

func generator() *rand.Rand {
	return rand.New(rand.NewPCG(2, 248))
}

func bytesOf(list ...byte) string {
	return string(list)
}

// numbers are those on both sides of each width's end, the powers of two, and random ones of every size.
func numbers() []uint64 {
	list := []uint64{0, 1, 2, 7, 100, 127, 128, 246, 247, 248, 249, 254, 255, 256, 257, 258, 65535, 65536}
	for i := range 64 {
		p := uint64(1) << i
		list = append(list, p-1, p, p+1)
	}
	list = append(list, math.MaxUint64-1, math.MaxUint64)
	g := generator()
	for range 400 {
		list = append(list, g.Uint64()>>g.UintN(64))
	}
	return list
}

// signed are numbers that may be negative: those on both sides of each width's end, and the greatest and the least one.
func signed() []int {
	list := []int{0, 1, -1, 2, -2, 123, -123, 124, -124, -125, 125, 127, -127, 128, -128, -129}
	for _, n := range numbers() {
		list = append(list, int(n), -int(n), int(n/2), -int(n/2)-1)
	}
	return append(list, math.MaxInt, math.MinInt, math.MinInt+1, math.MaxInt-1)
}

// texts are ordinary strings, the empty one, ones with the byte 0 and with bytes from 128 on, and ones on both sides of each width's end.
func texts() []string {
	list := []string{
		"", "a", "ab", "sacristan", "\x00", "\x00\x00", "a\x00b", "\x80", "\xff", "\x7f\x80\xf7\xf8\xff",
		"\xc3\xa9", "\xc3", "\xed\xa0\x80", "日本語", "\xf8\xf8", "\x02ab", "line\nline\r\n",
	}
	for _, n := range []int{127, 128, 246, 247, 248, 249, 254, 255, 256, 257, 4096, 65535, 65536, 65537} {
		list = append(list, strings.Repeat("\xff", n), randomString(generator(), n))
	}
	return list
}

func randomString(g *rand.Rand, n int) string {
	b := make([]byte, n)
	for i := range b {
		b[i] = byte(g.Uint32())
	}
	return string(b)
}

// rests are what may come after the bytes of something.
func rests() []string {
	return []string{"", "\x00", "\x07", "\xf7", "\xf8", "\xff", "abc", "\xff\xff\xff\xff\xff\xff\xff\xff\xff", "\x00\x00\x00\x00\x00\x00\x00\x00"}
}

// fixedByDefinition returns the bytes of n with a width by division, and false if they are too few.
func fixedByDefinition(n uint64, width int) (string, bool) {
	rest := new(big.Int).SetUint64(n)
	digit, base := new(big.Int), big.NewInt(256)
	s := ""
	for range width {
		rest.DivMod(rest, base, digit)
		s = bytesOf(byte(digit.Int64())) + s
	}
	return s, rest.Sign() == 0
}

// varByDefinition returns the bytes of n, with the first width that does.
func varByDefinition(n uint64) string {
	if n < 248 {
		return bytesOf(byte(n))
	}
	for k := 1; ; k++ {
		if s, ok := fixedByDefinition(n, k); ok {
			return bytesOf(byte(247+k)) + s
		}
	}
}

// intByDefinition returns the bytes of a number that may be negative, computed without a bound.
func intByDefinition(n int) string {
	twice := new(big.Int).Mul(big.NewInt(2), big.NewInt(int64(n)))
	if n < 0 {
		twice.Neg(twice).Sub(twice, big.NewInt(1))
	}
	return varByDefinition(twice.Uint64())
}

func TestFixedExamples(t *testing.T) { // P2.1
	for _, c := range []struct {
		n     uint64
		width int
		want  string
		e     api.Errno
	}{
		{258, 2, bytesOf(1, 2), api.OK},
		{258, 4, bytesOf(0, 0, 1, 2), api.OK},
		{258, 1, "", api.ErrRange},
		{0, 9, "", api.ErrArg},
		{0, 1, bytesOf(0), api.OK},
		{0, 8, bytesOf(0, 0, 0, 0, 0, 0, 0, 0), api.OK},
		{255, 1, bytesOf(255), api.OK},
		{256, 1, "", api.ErrRange},
		{math.MaxUint64, 8, "\xff\xff\xff\xff\xff\xff\xff\xff", api.OK},
		{math.MaxUint64, 7, "", api.ErrRange},
		{0x0102030405060708, 8, bytesOf(1, 2, 3, 4, 5, 6, 7, 8), api.OK},
	} {
		if got, e := Fixed(c.n, c.width); got != c.want || e != c.e {
			t.Errorf("Fixed(%d, %d) = %q, %d, want %q, %d", c.n, c.width, got, e, c.want, c.e)
		}
	}
}

func TestFixedIsTheDefinition(t *testing.T) { // P2.1
	for _, n := range numbers() {
		for width := 1; width <= 8; width++ {
			want, ok := fixedByDefinition(n, width)
			wantE := api.OK
			if !ok {
				want, wantE = "", api.ErrRange
			}
			if got, e := Fixed(n, width); got != want || e != wantE {
				t.Errorf("Fixed(%d, %d) = %q, %d, want %q, %d", n, width, got, e, want, wantE)
			}
		}
	}
}

func TestFixedRefusesWidths(t *testing.T) { // P2.1: ErrArg comes before ErrRange
	for _, width := range []int{0, -1, -2, -8, 9, 10, 16, 64, 256, 257, math.MaxInt, math.MinInt, math.MinInt + 1} {
		for _, n := range []uint64{0, 1, 256, math.MaxUint64} {
			if got, e := Fixed(n, width); got != "" || e != api.ErrArg {
				t.Errorf("Fixed(%d, %d) = %q, %d", n, width, got, e)
			}
		}
	}
}

func TestUnfixedExamples(t *testing.T) { // P2.1
	for _, c := range []struct {
		s    string
		want uint64
		e    api.Errno
	}{
		{bytesOf(1, 2), 258, api.OK},
		{"", 0, api.ErrArg},
		{bytesOf(0), 0, api.OK},
		{bytesOf(128), 128, api.OK},
		{bytesOf(0, 0, 0, 0, 0, 0, 0, 1), 1, api.OK},
		{bytesOf(1, 2, 3, 4, 5, 6, 7, 8), 0x0102030405060708, api.OK},
		{bytesOf(0, 0, 0, 0, 0, 0, 0, 0, 1), 0, api.ErrArg},
		{strings.Repeat("\xff", 8), math.MaxUint64, api.OK},
		{strings.Repeat("\xff", 9), 0, api.ErrArg},
		{strings.Repeat("\x00", 4096), 0, api.ErrArg},
	} {
		if got, e := Unfixed(c.s); got != c.want || e != c.e {
			t.Errorf("Unfixed(%q) = %d, %d, want %d, %d", c.s, got, e, c.want, c.e)
		}
	}
}

func TestUnfixedReadsFixed(t *testing.T) { // P2.1, P2.5
	for _, n := range numbers() {
		for width := 1; width <= 8; width++ {
			s, e := Fixed(n, width)
			if e != api.OK {
				continue
			}
			if got, e := Unfixed(s); got != n || e != api.OK {
				t.Errorf("Unfixed(Fixed(%d, %d)) = %d, %d", n, width, got, e)
			}
		}
	}
}

func TestUnfixedHasOneWay(t *testing.T) { // P2.1
	g := generator()
	for range 2000 {
		s := randomString(g, 1+g.IntN(8))
		n, e := Unfixed(s)
		if e != api.OK {
			t.Fatalf("Unfixed(%q): %d", s, e)
		}
		if again, e := Fixed(n, len(s)); again != s || e != api.OK {
			t.Errorf("Fixed(Unfixed(%q)) = %q, %d", s, again, e)
		}
	}
}

func TestVarExamples(t *testing.T) { // P2.2
	for n, want := range map[uint64]string{
		0: bytesOf(0), 1: bytesOf(1), 128: bytesOf(128), 247: bytesOf(247), 248: bytesOf(248, 248),
		255: bytesOf(248, 255), 256: bytesOf(249, 1, 0), 65535: bytesOf(249, 255, 255), 65536: bytesOf(250, 1, 0, 0),
		1<<56 - 1: "\xfe" + strings.Repeat("\xff", 7), 1 << 56: bytesOf(255, 1, 0, 0, 0, 0, 0, 0, 0),
		math.MaxUint64: strings.Repeat("\xff", 9),
	} {
		if got := Var(n); got != want {
			t.Errorf("Var(%d) = %q, want %q", n, got, want)
		}
	}
}

func TestVarIsTheDefinition(t *testing.T) { // P2.2
	for n := range uint64(1 << 17) {
		if got, want := Var(n), varByDefinition(n); got != want {
			t.Fatalf("Var(%d) = %q, want %q", n, got, want)
		}
	}
	for _, n := range numbers() {
		if got, want := Var(n), varByDefinition(n); got != want {
			t.Errorf("Var(%d) = %q, want %q", n, got, want)
		}
	}
}

func TestUnvarExamples(t *testing.T) { // P2.2
	for _, c := range []struct {
		s    string
		n    uint64
		rest string
		e    api.Errno
	}{
		{bytesOf(249, 1, 0, 7), 256, bytesOf(7), api.OK},
		{bytesOf(249, 0, 9), 0, "", api.ErrForm},
		{bytesOf(248, 247), 0, "", api.ErrForm},
		{bytesOf(250, 1, 2), 0, "", api.ErrForm},
		{"", 0, "", api.ErrForm},
		{bytesOf(247), 247, "", api.OK},
		{bytesOf(247, 248), 247, bytesOf(248), api.OK},
		{bytesOf(248, 248), 248, "", api.OK},
		{bytesOf(248), 0, "", api.ErrForm},
		{bytesOf(248, 0), 0, "", api.ErrForm},
		{bytesOf(249, 0, 255), 0, "", api.ErrForm},
		{bytesOf(249, 0, 0), 0, "", api.ErrForm},
		{bytesOf(250, 0, 255, 255), 0, "", api.ErrForm},
		{bytesOf(255, 0, 255, 255, 255, 255, 255, 255, 255), 0, "", api.ErrForm},
		{strings.Repeat("\xff", 8), 0, "", api.ErrForm},
		{strings.Repeat("\xff", 9), math.MaxUint64, "", api.OK},
		{strings.Repeat("\xff", 10), math.MaxUint64, "\xff", api.OK},
	} {
		if n, rest, e := Unvar(c.s); n != c.n || rest != c.rest || e != c.e {
			t.Errorf("Unvar(%q) = %d, %q, %d, want %d, %q, %d", c.s, n, rest, e, c.n, c.rest, c.e)
		}
	}
}

func TestUnvarReadsVar(t *testing.T) { // P2.2, P2.5
	for _, want := range numbers() {
		for _, after := range rests() {
			if n, rest, e := Unvar(Var(want) + after); n != want || rest != after || e != api.OK {
				t.Errorf("Unvar(Var(%d) + %q) = %d, %q, %d", want, after, n, rest, e)
			}
		}
	}
}

func TestUnvarRefusesPartsOfVar(t *testing.T) { // P2.2, P2.6: strings that lack their last bytes
	for _, want := range numbers() {
		s := Var(want)
		for i := range len(s) {
			if n, rest, e := Unvar(s[:i]); n != 0 || rest != "" || e != api.ErrForm {
				t.Errorf("Unvar(%q) = %d, %q, %d", s[:i], n, rest, e)
			}
		}
	}
}

func TestUnvarRefusesOtherWidths(t *testing.T) { // P2.2, P2.6: numbers with more bytes than they need
	for _, number := range numbers() {
		for k := 1; k <= 8; k++ {
			tail, ok := fixedByDefinition(number, k)
			s := bytesOf(byte(247+k)) + tail
			if !ok || s == varByDefinition(number) {
				continue
			}
			if n, rest, e := Unvar(s + "after"); n != 0 || rest != "" || e != api.ErrForm {
				t.Errorf("Unvar(%q) = %d, %q, %d", s, n, rest, e)
			}
		}
	}
}

func TestUnvarOfAllShortStrings(t *testing.T) { // P2.2, P2.6
	byBytes := map[string]uint64{}
	for n := range uint64(1 << 16) {
		byBytes[varByDefinition(n)] = n
	}
	for length := range 4 {
		for code := range 1 << (8 * length) {
			s := bytesOf(byte(code>>16), byte(code>>8), byte(code))[3-length:]
			wantN, wantRest, wantE := uint64(0), "", api.ErrForm
			for i := range length {
				if n, ok := byBytes[s[:i+1]]; ok {
					wantN, wantRest, wantE = n, s[i+1:], api.OK
					break
				}
			}
			if n, rest, e := Unvar(s); n != wantN || rest != wantRest || e != wantE {
				t.Fatalf("Unvar(%q) = %d, %q, %d, want %d, %q, %d", s, n, rest, e, wantN, wantRest, wantE)
			}
		}
	}
}

func TestIntExamples(t *testing.T) { // P2.3
	for n, want := range map[int]string{
		0: bytesOf(0), -1: bytesOf(1), 1: bytesOf(2), -2: bytesOf(3), 123: bytesOf(246), -124: bytesOf(247),
		124: bytesOf(248, 248), -125: bytesOf(248, 249), 127: bytesOf(248, 254), -128: bytesOf(248, 255), 128: bytesOf(249, 1, 0),
		math.MinInt: strings.Repeat("\xff", 9), math.MaxInt: strings.Repeat("\xff", 8) + "\xfe",
	} {
		if got := Int(n); got != want {
			t.Errorf("Int(%d) = %q, want %q", n, got, want)
		}
	}
}

func TestIntIsTheDefinition(t *testing.T) { // P2.3
	for _, n := range signed() {
		if got, want := Int(n), intByDefinition(n); got != want {
			t.Errorf("Int(%d) = %q, want %q", n, got, want)
		}
	}
}

func TestUnintReadsInt(t *testing.T) { // P2.3, P2.5
	for _, want := range signed() {
		for _, after := range rests() {
			if n, rest, e := Unint(Int(want) + after); n != want || rest != after || e != api.OK {
				t.Errorf("Unint(Int(%d) + %q) = %d, %q, %d", want, after, n, rest, e)
			}
		}
	}
}

func TestUnintRefuses(t *testing.T) { // P2.3
	list := []string{"", bytesOf(248), bytesOf(248, 247), bytesOf(248, 1), bytesOf(249, 0, 9), bytesOf(249, 0, 255), bytesOf(250, 1, 2)}
	for _, n := range signed() {
		list = append(list, Int(n)[:len(Int(n))-1])
	}
	for _, s := range list {
		if n, rest, e := Unint(s); n != 0 || rest != "" || e != api.ErrForm {
			t.Errorf("Unint(%q) = %d, %q, %d", s, n, rest, e)
		}
	}
}

func TestTextExamples(t *testing.T) { // P2.4
	for s, want := range map[string]string{
		"": bytesOf(0), "ab": bytesOf(2, 97, 98), "\x00": bytesOf(1, 0), "\xff\x80": bytesOf(2, 255, 128),
		// As many bytes as the string has, not runes.
		"日":                      bytesOf(3) + "日",
		strings.Repeat("x", 247): "\xf7" + strings.Repeat("x", 247),
		strings.Repeat("x", 248): "\xf8\xf8" + strings.Repeat("x", 248),
		strings.Repeat("x", 256): "\xf9\x01\x00" + strings.Repeat("x", 256),
	} {
		if got := Text(s); got != want {
			t.Errorf("Text(%q) = %q, want %q", s, got, want)
		}
	}
}

func TestTextIsTheDefinition(t *testing.T) { // P2.4
	for _, s := range texts() {
		if got, want := Text(s), varByDefinition(uint64(len(s)))+s; got != want {
			t.Errorf("Text of %d bytes = %q, want %q", len(s), got, want)
		}
	}
}

func TestUntextExamples(t *testing.T) { // P2.4
	for _, c := range []struct {
		s, text, rest string
		e             api.Errno
	}{
		{bytesOf(2, 97, 98, 99), "ab", "c", api.OK},
		{bytesOf(2, 97), "", "", api.ErrForm},
		{bytesOf(0), "", "", api.OK},
		{bytesOf(0, 0), "", "\x00", api.OK},
		{bytesOf(1, 0), "\x00", "", api.OK},
		{"", "", "", api.ErrForm},
		{bytesOf(1), "", "", api.ErrForm},
		{bytesOf(248), "", "", api.ErrForm},
		// Lengths with too many bytes.
		{bytesOf(248, 1, 97), "", "", api.ErrForm},
		{bytesOf(249, 0, 2, 97, 98), "", "", api.ErrForm},
		// Lengths that an int cannot hold, and the greatest that it can.
		{bytesOf(255, 128, 0, 0, 0, 0, 0, 0, 0) + "abc", "", "", api.ErrForm},
		{bytesOf(255, 127, 255, 255, 255, 255, 255, 255, 255) + "abc", "", "", api.ErrForm},
		{strings.Repeat("\xff", 9) + "abc", "", "", api.ErrForm},
		{strings.Repeat("\xff", 8) + "\xfeabc", "", "", api.ErrForm},
		// A length whose lowest 32 bits are a good one.
		{bytesOf(252, 1, 0, 0, 0, 2) + "abc", "", "", api.ErrForm},
	} {
		if text, rest, e := Untext(c.s); text != c.text || rest != c.rest || e != c.e {
			t.Errorf("Untext(%q) = %q, %q, %d, want %q, %q, %d", c.s, text, rest, e, c.text, c.rest, c.e)
		}
	}
}

func TestUntextReadsText(t *testing.T) { // P2.4, P2.5
	for _, want := range texts() {
		for _, after := range rests() {
			if text, rest, e := Untext(Text(want) + after); text != want || rest != after || e != api.OK {
				t.Errorf("Untext(Text of %d bytes + %q) = %d bytes, %q, %d", len(want), after, len(text), rest, e)
			}
		}
	}
}

func TestUntextRefusesPartsOfText(t *testing.T) { // P2.4, P2.6: strings that lack their last bytes
	for _, want := range texts() {
		s := Text(want)
		for i := range len(s) {
			if i > 300 && i < len(s)-1 {
				continue
			}
			if text, rest, e := Untext(s[:i]); text != "" || rest != "" || e != api.ErrForm {
				t.Errorf("Untext(%d bytes of %d) = %q, %q, %d", i, len(s), text, rest, e)
			}
		}
	}
}

// TestWhatIsReadHasOneWay reads strings that are mostly not the bytes of anything, and writes again what was read.
func TestWhatIsReadHasOneWay(t *testing.T) { // P2.6
	g := generator()
	for range 200000 {
		b := []byte(randomString(g, 1+g.IntN(12)))
		switch g.IntN(3) {
		case 0:
			b[0] = byte(248 + g.IntN(8))
		case 1:
			b[0] = byte(g.IntN(16))
		}
		if len(b) > 1 && g.IntN(2) == 0 {
			b[1] = byte(g.IntN(2))
		}
		s := string(b)
		if n, rest, e := Unvar(s); e == api.OK && Var(n)+rest != s || e != api.OK && (n != 0 || rest != "") {
			t.Fatalf("Unvar(%q) = %d, %q, %d", s, n, rest, e)
		}
		if n, rest, e := Unint(s); e == api.OK && Int(n)+rest != s || e != api.OK && (n != 0 || rest != "") {
			t.Fatalf("Unint(%q) = %d, %q, %d", s, n, rest, e)
		}
		if text, rest, e := Untext(s); e == api.OK && Text(text)+rest != s || e != api.OK && (text != "" || rest != "") {
			t.Fatalf("Untext(%q) = %q, %q, %d", s, text, rest, e)
		}
	}
}

func TestNoNumberBeginsAnother(t *testing.T) { // P2.6
	list := numbers()
	for _, m := range list {
		for _, n := range list {
			if m != n && strings.HasPrefix(Var(n), Var(m)) {
				t.Errorf("Var(%d) = %q begins Var(%d) = %q", m, Var(m), n, Var(n))
			}
		}
	}
}

func TestBytesAreOrderedAsNumbers(t *testing.T) { // P2.7
	list := numbers()
	for width := 1; width <= 8; width++ {
		for _, m := range list {
			for _, n := range list {
				s, e := Fixed(m, width)
				r, f := Fixed(n, width)
				if e == api.OK && f == api.OK && (s < r) != (m < n) {
					t.Fatalf("width %d: %q of %d, %q of %d", width, s, m, r, n)
				}
			}
		}
	}
}

func TestLesserNumbersAreNotLonger(t *testing.T) { // P2.7
	list := numbers()
	for _, m := range list {
		for _, n := range list {
			if m < n && len(Var(m)) > len(Var(n)) {
				t.Fatalf("Var(%d) = %q is longer than Var(%d) = %q", m, Var(m), n, Var(n))
			}
		}
	}
}

// item is something that was written: one of the kinds 0 (Var), 1 (Int), 2 (Text).
type item struct {
	kind int
	n    uint64
	i    int
	s    string
}

func (x item) write() string {
	switch x.kind {
	case 0:
		return Var(x.n)
	case 1:
		return Int(x.i)
	}
	return Text(x.s)
}

// read reads an item of the kind of x.
func (x item) read(s string) (got item, rest string, e api.Errno) {
	got.kind = x.kind
	switch x.kind {
	case 0:
		got.n, rest, e = Unvar(s)
	case 1:
		got.i, rest, e = Unint(s)
	default:
		got.s, rest, e = Untext(s)
	}
	return got, rest, e
}

func TestWhatIsWrittenIsReadInTurn(t *testing.T) { // P2.8
	g := generator()
	manyNumbers, manySigned, manyTexts := numbers(), signed(), texts()
	for range 300 {
		var list []item
		all := ""
		for range g.IntN(20) {
			x := item{kind: g.IntN(3)}
			switch x.kind {
			case 0:
				x.n = manyNumbers[g.IntN(len(manyNumbers))]
			case 1:
				x.i = manySigned[g.IntN(len(manySigned))]
			default:
				x.s = manyTexts[g.IntN(len(manyTexts))]
			}
			list = append(list, x)
			all += x.write()
		}
		for i, want := range list {
			got, rest, e := want.read(all)
			if got != want || e != api.OK {
				t.Fatalf("item %d of %d: kind %d is not read back: %d", i, len(list), want.kind, e)
			}
			all = rest
		}
		if all != "" {
			t.Fatalf("%q is left", all)
		}
	}
}

func TestCallsKeepNothing(t *testing.T) { // R6
	first := Var(256)
	Unvar(bytesOf(255, 1, 2, 3, 4, 5, 6, 7, 8))
	Fixed(math.MaxUint64, 8)
	if again := Var(256); again != first {
		t.Errorf("Var(256) = %q, then %q", first, again)
	}
	if n, e := Unfixed("\x01"); n != 1 || e != api.OK {
		t.Errorf("Unfixed(1) = %d, %d after other calls", n, e)
	}
}
