package crc

import (
	"hash/crc32"
	"math/bits"
	"math/rand/v2"
	"strings"
	"testing"
)

// residue is the checksum of every string that ends with its own checksum.
const residue = 0x2144DF1C

// register goes through s as the definition says, the bits laid out beforehand.
func register(start uint32, s string) uint32 {
	var row []bool
	for i := 0; i < len(s); i++ {
		for mask := byte(1); mask != 0; mask <<= 1 {
			row = append(row, s[i]&mask != 0)
		}
	}
	r := start
	for _, bit := range row {
		out := r%2 == 1
		r /= 2
		if out != bit {
			r ^= 0xEDB88320
		}
	}
	return r
}

func generator() *rand.Rand {
	return rand.New(rand.NewPCG(1, 802))
}

func randomString(g *rand.Rand, n int) string {
	b := make([]byte, n)
	for i := range b {
		b[i] = byte(g.Uint32())
	}
	return string(b)
}

// samples are the strings that all promises are tested with: ordinary ones, the empty one, the byte 0, bytes from 128 on.
func samples() []string {
	list := []string{
		"", "a", "b", "123456789", "1234", "56789", "sacristan", "The quick brown fox jumps over the lazy dog",
		"\x00", "\x00\x00", "\x00a", "a\x00", "a\x00b", strings.Repeat("\x00", 80),
		"\x7f", "\x80", "\xff", "\x80\x81\xfe\xff", "\xff\xff\xff\xff", strings.Repeat("\xff", 80),
		"\xc3\xa9", "\xc3", "\xed\xa0\x80", "\xef\xbf\xbd", "é", "日本語", "line\nline\r\n",
	}
	g := generator()
	for n := range 70 {
		list = append(list, randomString(g, n))
	}
	return append(list, randomString(g, 4096))
}

// equalLengths returns three samples of each length.
func equalLengths() [][3]string {
	g := generator()
	list := [][3]string{{"", "", ""}, {"a", "a", "a"}, {"abc", "\x00\x00\x00", "\xff\x80\x7f"}}
	for n := range 70 {
		list = append(list, [3]string{randomString(g, n), randomString(g, n), randomString(g, n)})
	}
	return list
}

// flip inverts the bits of s from the bit at on that pattern has, in the order in which the register goes through them.
func flip(s string, at int, pattern uint32) string {
	b := []byte(s)
	for i := range 32 {
		if pattern>>i&1 != 0 {
			b[(at+i)/8] ^= 1 << ((at + i) % 8)
		}
	}
	return string(b)
}

func TestSumExamples(t *testing.T) { // P1.1
	for _, c := range []struct {
		s    string
		want uint32
	}{
		{"", 0}, {"123456789", 0xCBF43926}, {"a", 0xE8B7BE43}, {"\x00", 0xD202EF8D},
	} {
		if got := Sum(c.s); got != c.want {
			t.Errorf("Sum(%q) = %#x, want %#x", c.s, got, c.want)
		}
	}
}

func TestMoreExamples(t *testing.T) { // P1.2
	if got := More(0xE8B7BE43, ""); got != 0xE8B7BE43 {
		t.Errorf("More of no bytes = %#x", got)
	}
	if got := More(Sum("1234"), "56789"); got != 0xCBF43926 {
		t.Errorf("More(Sum(1234), 56789) = %#x", got)
	}
}

func TestSumIsTheDefinition(t *testing.T) { // P1.1
	for _, s := range samples() {
		if got, want := Sum(s), ^register(0xFFFFFFFF, s); got != want {
			t.Errorf("Sum(%q) = %#x, want %#x", s, got, want)
		}
	}
}

func TestSumOfAllShortStrings(t *testing.T) { // P1.1
	check := func(b ...byte) {
		if got, want := Sum(string(b)), crc32.ChecksumIEEE(b); got != want {
			t.Fatalf("Sum(%q) = %#x, want %#x", b, got, want)
		}
	}
	for i := range 256 {
		check(byte(i))
		for j := range 256 {
			check(byte(i), byte(j))
		}
	}
}

func TestMoreIsTheDefinition(t *testing.T) { // P1.2
	g := generator()
	starts := []uint32{0, 1, 0x80000000, 0xFFFFFFFF, 0xEDB88320, 0x12345678, residue, g.Uint32(), g.Uint32()}
	for _, s := range samples() {
		for _, c := range starts {
			got := More(c, s)
			if want := ^register(^c, s); got != want {
				t.Errorf("More(%#x, %q) = %#x, want %#x", c, s, got, want)
			}
			if want := crc32.Update(c, crc32.IEEETable, []byte(s)); got != want {
				t.Errorf("More(%#x, %q) = %#x, hash/crc32 has %#x", c, s, got, want)
			}
		}
	}
}

func TestMoreOfNoBytes(t *testing.T) { // P1.2
	for i := range 32 {
		for _, c := range []uint32{1 << i, ^uint32(1 << i)} {
			if got := More(c, ""); got != c {
				t.Errorf("More(%#x, no bytes) = %#x", c, got)
			}
		}
	}
}

func TestSumInTwoParts(t *testing.T) { // P1.3
	for _, s := range samples() {
		whole := Sum(s)
		if got := More(0, s); got != whole {
			t.Errorf("More(0, %q) = %#x, Sum is %#x", s, got, whole)
		}
		for i := range len(s) + 1 {
			if i > 100 {
				break
			}
			if got := More(Sum(s[:i]), s[i:]); got != whole {
				t.Errorf("%q in parts at %d: %#x, want %#x", s, i, got, whole)
			}
		}
	}
}

func TestSumTellsBurstsApart(t *testing.T) { // P1.4
	g := generator()
	for _, s := range []string{"sacristan", strings.Repeat("\x00", 12), strings.Repeat("\xff", 12), randomString(g, 80)} {
		sum := Sum(s)
		for at := range 8*len(s) - 31 {
			patterns := []uint32{1, 0x80000000, 0x80000001, 0xFFFFFFFF, 0xEDB88320, 0x04C11DB7}
			for i := range uint32(256) {
				patterns = append(patterns, i+1)
			}
			for range 100 {
				patterns = append(patterns, g.Uint32()|0x80000001)
			}
			for _, p := range patterns {
				if Sum(flip(s, at, p)) == sum {
					t.Fatalf("%q: the bits %#x from %d on are not noticed", s, p, at)
				}
			}
		}
	}
}

// TestSumTellsAllBurstsApart goes through no patterns: since checksums are linear (P1.5), all bursts of 32 bits are noticed if the changes that the 32 bits make, each alone, are independent.
func TestSumTellsAllBurstsApart(t *testing.T) { // P1.4
	for _, s := range []string{"1234", "sacristan", "\x00\x80\xff\x7f\x01", randomString(generator(), 80)} {
		for at := range 8*len(s) - 31 {
			var changes []uint32
			for i := range 32 {
				changes = append(changes, Sum(s)^Sum(flip(s, at, 1<<i)))
			}
			if r := rank(changes); r != 32 {
				t.Fatalf("%q: the bits from %d on have rank %d", s, at, r)
			}
		}
	}
}

// rank returns how many of the words are independent under exclusive or.
func rank(words []uint32) int {
	var byTop [32]uint32
	n := 0
	for _, w := range words {
		for w != 0 {
			top := bits.Len32(w) - 1
			if byTop[top] == 0 {
				byTop[top] = w
				n++
				break
			}
			w ^= byTop[top]
		}
	}
	return n
}

func TestSumOfExclusiveOr(t *testing.T) { // P1.5
	for _, c := range equalLengths() {
		mixed := make([]byte, len(c[0]))
		for i := range mixed {
			mixed[i] = c[0][i] ^ c[1][i] ^ c[2][i]
		}
		if got, want := Sum(c[0])^Sum(c[1])^Sum(c[2]), Sum(string(mixed)); got != want {
			t.Errorf("%q: %#x, want %#x", c, got, want)
		}
	}
}

func TestSumAfterItself(t *testing.T) { // P1.6
	for _, s := range samples() {
		c := Sum(s)
		end := string([]byte{byte(c), byte(c >> 8), byte(c >> 16), byte(c >> 24)})
		if got := Sum(s + end); got != residue {
			t.Errorf("Sum(%q and its checksum) = %#x", s, got)
		}
	}
}

func TestCallsKeepNothing(t *testing.T) { // R6
	for _, s := range samples() {
		first := Sum(s)
		More(first, "other")
		if again := Sum(s); again != first {
			t.Errorf("Sum(%q) = %#x, then %#x", s, first, again)
		}
	}
}
