package token

import (
	"fmt"
	"math"
	"math/big"
	"math/rand/v2"
	"regexp"
	"strings"
	"testing"

	"sacristan/api"
)

// The limits, as DOC.md and the chapter have them.
const (
	maxID   = 1 << 31
	maxTask = 3
	maxTick = 1 << 40
)

// edges are the least and the greatest numbers, 0, the ends of what is valid somewhere, what is just outside of these, and numbers that are valid if some of their bits are lost.
var edges = []int{
	math.MinInt, math.MinInt + 1, math.MinInt + 2, -1 << 48, -maxTick - 1, -maxTick, -maxID - 1, -maxID, -1 << 32, -3, -2, -1,
	0, 1, 2, 3, 4, 5, 9, 10, 256, 257, 1<<16 + 1, maxID - 1, maxID, maxID + 1, 1<<32 - 1, 1 << 32, 1<<32 + 1, 1<<32 + 3,
	maxTick - 1, maxTick, maxTick + 1, 2 * maxTick, 10 * maxTick, 1<<48 + 1, math.MaxInt - 1, math.MaxInt,
}

// The reference is written from the definitions: with a regular expression, and numbers of any size.

func wantCheck(t api.Token) api.Errno {
	if t.Alloc < 0 || t.Alloc > maxID || t.Task < 0 || t.Task > maxTask || t.Inc < 1 || t.Inc > maxTick {
		return api.ErrRange
	}
	return api.OK
}

func wantFormat(t api.Token) (string, api.Errno) {
	if e := wantCheck(t); e != api.OK {
		return "", e
	}
	return fmt.Sprintf("%d/%d/%d", t.Alloc, t.Task, t.Inc), api.OK
}

var form = regexp.MustCompile(`\A(0|[1-9][0-9]*)/(0|[1-9][0-9]*)/(0|[1-9][0-9]*)\z`)

func wantParse(s string) (api.Token, api.Errno) {
	parts := form.FindStringSubmatch(s)
	if parts == nil {
		return api.Token{}, api.ErrForm
	}
	var n [3]int
	for i := range n {
		number, ok := new(big.Int).SetString(parts[i+1], 10)
		if !ok || !number.IsInt64() {
			return api.Token{}, api.ErrRange
		}
		n[i] = int(number.Int64())
	}
	t := api.Token{Alloc: n[0], Task: n[1], Inc: n[2]}
	if e := wantCheck(t); e != api.OK {
		return api.Token{}, e
	}
	return t, api.OK
}

func wantLess(a, b api.Token) bool {
	return a.Alloc < b.Alloc || a.Alloc == b.Alloc && (a.Task < b.Task || a.Task == b.Task && a.Inc < b.Inc)
}

// The samples.

func generator() *rand.Rand {
	return rand.New(rand.NewPCG(14, 1))
}

// upTo returns a number from 0 to most, of every size.
func upTo(g *rand.Rand, most int) int {
	return g.IntN(most>>g.IntN(42) + 1)
}

// valid returns valid tokens, among them those at the ends.
func valid() []api.Token {
	all := []api.Token{{Alloc: 7, Inc: 12}, {Task: 3, Inc: 1}}
	for _, id := range []int{0, 1, 9, 10, 99, 100, 1000, 20304, maxID - 1, maxID} {
		for task := range maxTask + 1 {
			for _, inc := range []int{1, 2, 9, 10, 11, 90, 100, 101, 1 << 32, 999999999999, 1000000000000, maxTick - 1, maxTick} {
				all = append(all, api.Token{Alloc: id, Task: task, Inc: inc})
			}
		}
	}
	// Every number of digits.
	for n := 1; n <= maxTick; n *= 10 {
		all = append(all, api.Token{Alloc: min(n, maxID), Inc: n}, api.Token{Alloc: min(10*n-1, maxID), Inc: min(10*n-1, maxTick)})
	}
	g := generator()
	for range 2000 {
		all = append(all, api.Token{Alloc: upTo(g, maxID), Task: g.IntN(maxTask + 1), Inc: 1 + upTo(g, maxTick-1)})
	}
	return all
}

// anything returns tokens with all combinations of the edges; most of them are not valid.
func anything() []api.Token {
	var all []api.Token
	for _, id := range edges {
		for _, task := range edges {
			for _, inc := range edges {
				all = append(all, api.Token{Alloc: id, Task: task, Inc: inc})
			}
		}
	}
	return all
}

// words returns all strings of at most n of the letters.
func words(n int, letters ...string) []string {
	all := []string{""}
	first := 0
	for range n {
		end := len(all)
		for _, word := range all[first:end] {
			for _, letter := range letters {
				all = append(all, word+letter)
			}
		}
		first = end
	}
	return all
}

// written is three numbers that are those of a valid token, as they are written.
func written() [3]string {
	return [3]string{"70", "2", "1203"}
}

// with returns the text of written with something else at one of its places.
func with(at int, number string) string {
	parts := written()
	parts[at] = number
	return strings.Join(parts[:], "/")
}

func expectCheck(t *testing.T, want api.Errno, x api.Token) {
	t.Helper()
	if got := Check(x); got != want {
		t.Errorf("Check(%v) = %v, want %v", x, got, want)
	}
}

func expectFormat(t *testing.T, want string, wantError api.Errno, x api.Token) {
	t.Helper()
	if got, e := Format(x); got != want || e != wantError {
		t.Errorf("Format(%v) = %q, %v, want %q, %v", x, got, e, want, wantError)
	}
}

func expectParse(t *testing.T, want api.Token, wantError api.Errno, s string) {
	t.Helper()
	if got, e := Parse(s); got != want || e != wantError {
		t.Errorf("Parse(%.200q) = %v, %v, want %v, %v", s, got, e, want, wantError)
	}
}

// expectError says that Parse returns an error for s, and an empty token; the reference has to agree.
func expectError(t *testing.T, want api.Errno, s string) {
	t.Helper()
	if _, e := wantParse(s); e != want {
		t.Fatalf("badly chosen: %.200q has the error %v", s, e)
	}
	expectParse(t, api.Token{}, want, s)
}

func expectLess(t *testing.T, want bool, a, b api.Token) {
	t.Helper()
	if got := Less(a, b); got != want {
		t.Errorf("Less(%v, %v) = %v, want %v", a, b, got, want)
	}
}

func TestExamples(t *testing.T) { // P14.1, P14.2, P14.3
	expectFormat(t, "7/0/12", api.OK, api.Token{Alloc: 7, Task: 0, Inc: 12})
	expectParse(t, api.Token{Alloc: 7, Task: 0, Inc: 12}, api.OK, "7/0/12")
	expectParse(t, api.Token{Alloc: 0, Task: 3, Inc: 1}, api.OK, "0/3/1")
	for _, s := range []string{"7/0", "07/0/1", "7/0/1/", "7/-1/1", ""} {
		expectParse(t, api.Token{}, api.ErrForm, s)
	}
	for _, s := range []string{"7/4/1", "7/0/0", "99999999999999999999/0/1"} {
		expectParse(t, api.Token{}, api.ErrRange, s)
	}
	expectFormat(t, "", api.ErrRange, api.Token{Alloc: 7})
	expectCheck(t, api.ErrRange, api.Token{Alloc: 7})
	expectLess(t, true, api.Token{Alloc: 7, Task: 0, Inc: 9}, api.Token{Alloc: 7, Task: 1, Inc: 1})
	expectLess(t, false, api.Token{Alloc: 7, Task: 1, Inc: 1}, api.Token{Alloc: 7, Task: 1, Inc: 1})
}

func TestCheckOfEachNumber(t *testing.T) { // P14.1
	for _, row := range []struct {
		least, most int
		field       func(x *api.Token) *int
	}{
		{0, maxID, func(x *api.Token) *int { return &x.Alloc }},
		{0, maxTask, func(x *api.Token) *int { return &x.Task }},
		{1, maxTick, func(x *api.Token) *int { return &x.Inc }},
	} {
		for _, x := range []api.Token{{Inc: 1}, {Alloc: 7, Task: 1, Inc: 12}, {Alloc: maxID, Task: maxTask, Inc: maxTick}} {
			for _, n := range []int{row.least, row.least + 1, row.most - 1, row.most} {
				*row.field(&x) = n
				expectCheck(t, api.OK, x)
			}
			for _, n := range []int{row.least - 1, row.most + 1, -1, -row.most, math.MinInt, math.MinInt + 1, math.MaxInt - 1, math.MaxInt, 1<<48 + row.most, math.MinInt + row.most} {
				*row.field(&x) = n
				expectCheck(t, api.ErrRange, x)
			}
		}
	}
}

func TestCheckOfSeveralNumbers(t *testing.T) { // P14.1
	seen := map[int]int{}
	for _, x := range anything() {
		expectCheck(t, wantCheck(x), x)
		wrong := 0
		for _, alone := range []api.Token{{Alloc: x.Alloc, Inc: 1}, {Task: x.Task, Inc: 1}, {Inc: x.Inc}} {
			if wantCheck(alone) != api.OK {
				wrong++
			}
		}
		seen[wrong]++
	}
	for wrong := range 4 {
		if seen[wrong] < 100 {
			t.Errorf("badly chosen: %d tokens with %d wrong numbers", seen[wrong], wrong)
		}
	}
}

func TestFormatOfValidTokens(t *testing.T) { // P14.2
	for _, row := range []struct {
		want string
		x    api.Token
	}{
		{"0/0/1", api.Token{Inc: 1}}, {"1/1/1", api.Token{Alloc: 1, Task: 1, Inc: 1}}, {"9/3/9", api.Token{Alloc: 9, Task: 3, Inc: 9}},
		{"10/0/10", api.Token{Alloc: 10, Inc: 10}}, {"0/3/100", api.Token{Task: 3, Inc: 100}}, {"5/0/1099511627776", api.Token{Alloc: 5, Inc: maxTick}},
		{"2147483648/3/1099511627776", api.Token{Alloc: maxID, Task: maxTask, Inc: maxTick}}, {"2147483648/0/1", api.Token{Alloc: maxID, Inc: 1}},
	} {
		expectFormat(t, row.want, api.OK, row.x)
	}
	for _, x := range valid() {
		want, _ := wantFormat(x)
		expectFormat(t, want, api.OK, x)
	}
}

func TestFormatOfOtherTokens(t *testing.T) { // P14.2, R1
	for _, x := range anything() {
		want, e := wantFormat(x)
		expectFormat(t, want, e, x)
	}
}

func TestParseOfEachForm(t *testing.T) { // P14.2, R1: how many numbers there are, and slashes
	for _, s := range []string{
		"", "/", "//", "///", "////", strings.Repeat("/", 1000), "0", "7", "12", "/7", "7/", "7/0", "/7/0", "7/0/", "//7", "7//", "/7/",
		"/0/1", "7//1", "7/0/", "/7/0/1", "7/0/1/", "//7/0/1", "7/0/1//", "/7/0/1/", "7//0/1", "7/0//1", "7//0//1",
		"7/0/1/2", "7/0/1/0", "7/0/1/2/3", strings.Repeat("1/", 1000) + "1", "701", "7\\0\\1", "7|0|1", "7 0 1", "7,0,1", "7/0.1", "7.0/1", "7-0-1", "7:0:1", "7\u012f0\u012f1", "7\u202f0/1", "7/0\U0001002f1",
	} {
		expectError(t, api.ErrForm, s)
	}
}

func TestParseOfEachPlace(t *testing.T) { // P14.2, R1: a number that is not written well
	for at, number := range written() {
		faults := []string{
			"", "00", "01", "000", "0" + number, "00" + number, "0000000000000000000000000000001", "0x1", "1e3", "1.0", "1_0", "a", "A", "x", "ten", "-", "+", "-0", "+0", "٣", "३", "３", "1٣", "²", "½", "\u0131", "\u0231", "1\u0130", "\U00010031", "\U000100b1",
			" ", "  ", "\t", "\n", "\x00", "\r", "\u00a0", "\u2044", "∕", "／", "\xff", "\xb1", "\xc0\xb1", "\xe2\x82", "\ufffd", "0-", "0 ", "0\x00", ".", ",", "\\", "1 2", "1+2", "1\n2", "1\x002",
		}
		for _, sign := range []string{"-", "+", "--", "−", " ", "\t", "\n", "\x00", "0x", "#", "\xff", "\ufeff"} {
			faults = append(faults, sign+number, number+sign)
		}
		for _, digit := range []string{"0", "1", "2", "3"} {
			faults = append(faults, "/"+digit, digit+"/", "-"+digit, digit+":", "."+digit)
		}
		for _, fault := range faults {
			expectError(t, api.ErrForm, with(at, fault))
		}
	}
}

func TestParseOfEachByte(t *testing.T) { // P14.2, R1: all bytes at all places, in place of another byte and between them; those just below 0 and just above 9 are among them
	digits, slashes := 0, 0
	for b := range 256 {
		for _, s := range []string{"7/0/1", "12/3/45", "0/0/10"} {
			for at := range len(s) + 1 {
				cases := []string{s[:at] + string([]byte{byte(b)}) + s[at:]}
				if at < len(s) {
					cases = append(cases, s[:at]+string([]byte{byte(b)})+s[at+1:])
				}
				for _, text := range cases {
					want, e := wantParse(text)
					expectParse(t, want, e, text)
					switch {
					case e == api.ErrForm && b == '/':
						slashes++
					case e == api.OK:
						digits++
					}
				}
			}
		}
	}
	if digits < 100 || slashes < 10 {
		t.Errorf("badly chosen: %d tokens, %d slashes too many", digits, slashes)
	}
}

func TestParseOfZero(t *testing.T) { // P14.2: 0 itself has no leading zero
	expectParse(t, api.Token{Inc: 1}, api.OK, "0/0/1")
	expectParse(t, api.Token{Alloc: 0, Task: 2, Inc: 10}, api.OK, "0/2/10")
	expectParse(t, api.Token{Alloc: 100, Task: 0, Inc: 20}, api.OK, "100/0/20")
	for _, s := range []string{"0/0/0", "1/0/0", "0/3/0", "2147483648/3/0"} {
		expectError(t, api.ErrRange, s)
	}
	for _, s := range []string{"00/0/1", "0/00/1", "0/0/01", "0/0/00", "00/00/00", "01/0/1", "0/01/1", "0/03/1"} {
		expectError(t, api.ErrForm, s)
	}
}

// great are numbers that no place has: the greatest number of an int, what is just beyond it and beyond other widths, and numbers of very many digits.
var great = []string{
	"1099511627777", "1099511627778", "10995116277760", "9223372036854775806", "9223372036854775807", "9223372036854775808", "9223372036854775809",
	"18446744073709551614", "18446744073709551615", "18446744073709551616", "18446744073709551617", "18446744073709551618", "18446744073709551619",
	"36893488147419103233", "99999999999999999999", "100000000000000000000", "184467440737095516161", "340282366920938463463374607431768211457",
	"1" + strings.Repeat("0", 63) + "1", "1" + strings.Repeat("0", 1000), strings.Repeat("9", 1000), "1" + strings.Repeat("0", 1<<16), strings.Repeat("12", 1<<16),
}

func TestParseOfGreatNumbers(t *testing.T) { // P14.2, R1
	most := [3]int{maxID, maxTask, maxTick}
	for at := range written() {
		numbers := append([]string{fmt.Sprint(most[at] + 1), fmt.Sprint(most[at] + 2), fmt.Sprint(2 * most[at]), fmt.Sprint(10 * most[at]), fmt.Sprint(1<<41 + 1)}, great...)
		for _, number := range numbers {
			expectError(t, api.ErrRange, with(at, number))
		}
		for shift := range 64 {
			for _, n := range []uint64{1 << shift, 1<<shift + 1, 1<<shift - 1, 1<<63 | 1<<shift} {
				s := with(at, fmt.Sprint(n))
				want, e := wantParse(s)
				expectParse(t, want, e, s)
			}
		}
		s := with(at, fmt.Sprint(most[at]))
		want, e := wantParse(s)
		if e != api.OK {
			t.Fatalf("badly chosen: %q is no token", s)
		}
		expectParse(t, want, e, s)
	}
	expectError(t, api.ErrRange, "2147483649/4/1099511627777")
	expectError(t, api.ErrRange, strings.Join(great[:3], "/"))
	expectError(t, api.ErrRange, strings.Join(great[8:11], "/"))
}

func TestParseOfBothErrors(t *testing.T) { // P14.2, R2: a number is too great, and another one, or the end, is not written well
	for at := range written() {
		for other := range written() {
			for _, number := range append([]string{"2147483649", "4"}, great...) {
				for _, fault := range []string{"", "01", "00", "-1", "x", " 1", "1 ", "1/1", "\xff"} {
					if at == other {
						continue
					}
					parts := written()
					parts[at], parts[other] = number, fault
					expectError(t, api.ErrForm, strings.Join(parts[:], "/"))
				}
			}
		}
		for _, number := range append([]string{"2147483649"}, great...) {
			for _, s := range []string{number + "x", "0" + number, "-" + number, number + " ", number + "-", number + ":"} {
				expectError(t, api.ErrForm, with(at, s))
			}
			expectError(t, api.ErrForm, with(at, number)+"/")
			expectError(t, api.ErrForm, "/"+with(at, number))
			expectError(t, api.ErrForm, with(at, number)+"/1")
			expectError(t, api.ErrForm, number)
			expectError(t, api.ErrForm, number+"/"+number)
		}
	}
	expectError(t, api.ErrForm, "7/0/0/") // 0 is too small, and there is a slash too many
	expectError(t, api.ErrForm, "07/0/0")
}

func TestParseOfAllShortTexts(t *testing.T) { // P14.2
	seen := map[api.Errno]int{}
	for _, s := range append(words(8, "0", "1", "4", "/"), words(6, "0", "3", "9", "/", "-", "٣")...) {
		want, e := wantParse(s)
		expectParse(t, want, e, s)
		seen[e]++
	}
	for _, e := range []api.Errno{api.OK, api.ErrForm, api.ErrRange} {
		if seen[e] < 500 {
			t.Errorf("badly chosen: %d texts with the error %v", seen[e], e)
		}
	}
}

func TestParseAfterFormat(t *testing.T) { // P14.4
	for _, x := range append(valid(), anything()...) {
		if s, e := Format(x); e == api.OK {
			expectParse(t, x, api.OK, s)
		}
	}
}

func TestFormatAfterParse(t *testing.T) { // P14.4
	n := 0
	texts := append(words(8, "0", "1", "3", "/"), "2147483648/3/1099511627776", "2147483648/3/1099511627777", "2147483649/3/1099511627776", "0/0/1", "1/0/00")
	for _, x := range valid() {
		s := fmt.Sprintf("%d/%d/%d", x.Alloc, x.Task, x.Inc)
		texts = append(texts, s, "0"+s, s+"0", s+"/", strings.Replace(s, "/", "/0", 1))
	}
	for _, s := range texts {
		if x, e := Parse(s); e == api.OK {
			expectFormat(t, s, api.OK, x)
			expectCheck(t, api.OK, x)
			n++
		}
	}
	if n < 1000 {
		t.Errorf("badly chosen: %d tokens", n)
	}
}

func TestFormatIsDigitsAndTwoSlashes(t *testing.T) { // P14.6
	tokens := map[string]api.Token{}
	for _, x := range valid() {
		s, e := Format(x)
		if e != api.OK {
			t.Fatalf("Format(%v): error %v", x, e)
		}
		if strings.Count(s, "/") != 2 || strings.Trim(s, "/0123456789") != "" || strings.ContainsFunc(s, func(r rune) bool { return r != '/' && (r < '0' || r > '9') }) {
			t.Errorf("Format(%v) = %q", x, s)
		}
		for i, part := range strings.Split(s, "/") {
			if number, ok := new(big.Int).SetString(part, 10); !ok || number.Cmp(big.NewInt(int64([]int{x.Alloc, x.Task, x.Inc}[i]))) != 0 {
				t.Errorf("Format(%v) = %q: the number %d", x, s, i)
			}
		}
		if other, ok := tokens[s]; ok && other != x {
			t.Errorf("%v and %v are both written %q", x, other, s)
		}
		tokens[s] = x
	}
	// Tokens whose digits are the same, but for the places of the slashes.
	for _, x := range []api.Token{{Alloc: 1, Task: 1, Inc: 11}, {Alloc: 11, Task: 1, Inc: 1}, {Alloc: 1, Task: 2, Inc: 31}, {Alloc: 12, Task: 3, Inc: 1}} {
		s, _ := Format(x)
		if other, ok := tokens[s]; ok && other != x {
			t.Errorf("%v and %v are both written %q", x, other, s)
		}
		tokens[s] = x
	}
}

func TestLessOfEachNumber(t *testing.T) { // P14.3: the first number that differs decides, whatever comes after it
	for _, a := range edges {
		for _, b := range edges {
			for _, same := range []int{math.MinInt, -1, 0, 1, 3, maxTick, math.MaxInt} {
				expectLess(t, a < b, api.Token{Alloc: a, Task: same, Inc: same}, api.Token{Alloc: b, Task: same, Inc: same})
				expectLess(t, a < b, api.Token{Alloc: same, Task: a, Inc: same}, api.Token{Alloc: same, Task: b, Inc: same})
				expectLess(t, a < b, api.Token{Alloc: same, Task: same, Inc: a}, api.Token{Alloc: same, Task: same, Inc: b})
				if a != b { // the other way round behind it
					expectLess(t, a < b, api.Token{Alloc: a, Task: b, Inc: same}, api.Token{Alloc: b, Task: a, Inc: same})
					expectLess(t, a < b, api.Token{Alloc: a, Task: same, Inc: b}, api.Token{Alloc: b, Task: same, Inc: a})
					expectLess(t, a < b, api.Token{Alloc: same, Task: a, Inc: b}, api.Token{Alloc: same, Task: b, Inc: a})
					expectLess(t, a < b, api.Token{Alloc: a, Task: b, Inc: b}, api.Token{Alloc: b, Task: a, Inc: a})
				}
			}
		}
	}
}

// few returns all tokens of a few numbers, valid or not.
func few(values ...int) []api.Token {
	var all []api.Token
	for _, id := range values {
		for _, task := range values {
			for _, inc := range values {
				all = append(all, api.Token{Alloc: id, Task: task, Inc: inc})
			}
		}
	}
	return all
}

func TestLessIsAStrictOrder(t *testing.T) { // P14.3, P14.5
	for _, tokens := range [][]api.Token{few(0, 1, 2, 3), few(math.MinInt, -1, 0, math.MaxInt), few(-2, 1, maxTick, 1<<32+1)} {
		for _, a := range tokens {
			for _, b := range tokens {
				expectLess(t, wantLess(a, b), a, b)
				n := 0
				for _, holds := range []bool{Less(a, b), a == b, Less(b, a)} {
					if holds {
						n++
					}
				}
				if n != 1 {
					t.Errorf("%d of Less(a, b), a = b, Less(b, a) hold for %v and %v", n, a, b)
				}
				for _, c := range tokens {
					if Less(a, b) && Less(b, c) && !Less(a, c) {
						t.Errorf("%v, %v, %v: not transitive", a, b, c)
					}
				}
			}
		}
	}
}

func TestLessOfSamples(t *testing.T) { // P14.3, P14.5
	g := generator()
	tokens := append(valid(), anything()...)
	seen := map[bool]int{}
	for range 100000 {
		a, b := tokens[g.IntN(len(tokens))], tokens[g.IntN(len(tokens))]
		if g.IntN(2) == 0 {
			b.Alloc = a.Alloc
		}
		if g.IntN(2) == 0 {
			b.Task = a.Task
		}
		if g.IntN(4) == 0 {
			b.Inc = a.Inc
		}
		expectLess(t, wantLess(a, b), a, b)
		seen[wantLess(a, b)]++
	}
	if seen[true] < 10000 || seen[false] < 10000 {
		t.Errorf("badly chosen: %v", seen)
	}
}

func TestCallsKeepNothing(t *testing.T) { // R6: each call returns the same again after others, with errors and without
	texts := []string{"7/0/12", "2147483648/3/1099511627776", "7/0", "7/4/1", "", great[4] + "/0/1", "0/0/1", "1/x/1"}
	tokens := []api.Token{{Inc: 1}, {}, {Alloc: maxID, Task: maxTask, Inc: maxTick}, {Alloc: -1, Inc: 1}, {Alloc: 7, Inc: 12}}
	for range 3 {
		for i := range texts {
			want, e := wantParse(texts[i])
			expectParse(t, want, e, texts[i])
			x := tokens[i%len(tokens)]
			s, e := wantFormat(x)
			expectFormat(t, s, e, x)
			expectCheck(t, e, x)
			expectLess(t, wantLess(x, want), x, want)
		}
	}
}
