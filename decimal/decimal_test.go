package decimal

import (
	"fmt"
	"math"
	"math/big"
	"strings"
	"testing"

	"depot/api"
)

// The bounds that the document names, written out, so that a test does not
// lean on the constants that the package uses.
const (
	maxSeconds = 2147483648
	most18     = 999999999999999999 // of 18 digits
	most15     = 0xfffffffffffffff  // of 15 hexadecimal digits
)

// edges are the integers around which the promises change.
func edges() []int {
	l := []int{math.MinInt, math.MinInt + 1, math.MaxInt, math.MaxInt - 1}
	for _, n := range []int{0, 9, 10, 15, 16, 99, 100, 255, 256, 4096,
		99999999, 999999999, 1000000000, maxSeconds, 2 * maxSeconds,
		-maxSeconds, 1 << 32, 1 << 53, most15, most18} {
		l = append(l, n-1, n, n+1)
	}
	return l
}

// wrong are texts of which none denotes a number, whatever the base.
func wrong() []string {
	return []string{"", " ", "-", "+", "-1", "+1", "-0", " 1", "1 ", "1\t", "\n1",
		"1\n", "1.5", "1,5", "1_0", "1e3x", "0x1", "0X1", "1h", "g", "G", "/", ":",
		"@", "`", "\x00", "1\x00", "\x001", "1\x80", "\xff", "\xb1", "1\xc2",
		"\u0661", "\u00b2", "\uff11", "1\uff11", "\U0001d7ce", "\ufffd",
		"\u0130", "\u0131", "\uff21", "\u0430"}
}

// P2.1

func TestPlain(t *testing.T) {
	for n, want := range map[int]string{
		0:             "0",
		1:             "1",
		9:             "9",
		10:            "10",
		100:           "100",
		2147483648:    "2147483648",
		-1:            "-1",
		-5:            "-5",
		-10:           "-10",
		math.MaxInt:   "9223372036854775807",
		math.MinInt:   "-9223372036854775808",
		-math.MaxInt:  "-9223372036854775807",
		1000000000000: "1000000000000",
	} {
		if got := Plain(n); got != want {
			t.Errorf("Plain(%d) is %q, want %q", n, got, want)
		}
	}
}

func TestPlainOfEdges(t *testing.T) {
	for _, n := range edges() {
		if got, want := Plain(n), big.NewInt(int64(n)).String(); got != want {
			t.Errorf("Plain(%d) is %q", n, got)
		}
	}
}

func TestPad(t *testing.T) {
	for _, x := range []struct {
		n, width int
		want     string
	}{
		{7, 2, "07"},
		{0, 0, "0"},
		{0, 1, "0"},
		{0, 2, "00"},
		{0, 9, "000000000"},
		{0, 10, "0"},
		{5, 4, "0005"},
		{5, 1, "5"},
		{5, 0, "5"},
		{5, -1, "5"},
		{5, -1000, "5"},
		{5, math.MinInt, "5"},
		{5, 8, "00000005"},
		{5, 9, "000000005"},
		{5, 10, "5"},
		{5, 11, "5"},
		{5, math.MaxInt, "5"},
		{12, 2, "12"},
		{12, 3, "012"},
		{12345, 4, "12345"},
		{99999999, 9, "099999999"},
		{999999999, 9, "999999999"},
		{1000000000, 9, "1000000000"},
		{1000000000, 10, "1000000000"},
		{1000000000, 12, "1000000000"},
		{math.MaxInt, 9, "9223372036854775807"},
		{-5, 4, "-5"},
		{-5, 9, "-5"},
		{-5, 10, "-5"},
		{-5, 0, "-5"},
		{-5, -4, "-5"},
		{-1, 2, "-1"},
		{-1, 3, "-1"},
		{math.MinInt, 9, "-9223372036854775808"},
	} {
		if got := Pad(x.n, x.width); got != x.want {
			t.Errorf("Pad(%d, %d) is %q, want %q", x.n, x.width, got, x.want)
		}
	}
}

func TestPadOfEachWidth(t *testing.T) {
	for _, n := range edges() {
		for width := -3; width <= 20; width++ {
			want := fmt.Sprint(n)
			for n >= 0 && width <= 9 && len(want) < width {
				want = "0" + want
			}
			if got := Pad(n, width); got != want {
				t.Errorf("Pad(%d, %d) is %q, want %q", n, width, got, want)
			}
		}
	}
}

// P2.2

func TestNumber(t *testing.T) {
	for _, x := range []struct {
		s    string
		most int
		want int
		e    api.Errno
	}{
		{"0", 0, 0, api.OK},
		{"0", 1, 0, api.OK},
		{"1", 0, 0, api.ErrRange},
		{"007", 9, 7, api.OK},
		{"9", 9, 9, api.OK},
		{"10", 9, 0, api.ErrRange},
		{"8", 9, 8, api.OK},
		{"100", 100, 100, api.OK},
		{"101", 100, 0, api.ErrRange},
		{"99", 100, 99, api.OK},
		{"1234567890", math.MaxInt, 1234567890, api.OK},
		{"2147483647", maxSeconds, maxSeconds - 1, api.OK},
		{"2147483648", maxSeconds, maxSeconds, api.OK},
		{"2147483649", maxSeconds, 0, api.ErrRange},
		{"999999999999999999", math.MaxInt, most18, api.OK},
		{"999999999999999999", most18, most18, api.OK},
		{"999999999999999999", most18 - 1, 0, api.ErrRange},
		{"1000000000000000000", math.MaxInt, 0, api.ErrForm},
		{"000000000000000000", 0, 0, api.OK},
		{"000000000000000005", 5, 5, api.OK},
		{"000000000000000005", 4, 0, api.ErrRange},
		{"0000000000000000000", 0, 0, api.ErrForm},
		{"0000000000000000005", 5, 0, api.ErrForm},
		{"99999999999999999999999999", 0, 0, api.ErrForm},
		{"0", -1, 0, api.ErrRange},
		{"7", -7, 0, api.ErrRange},
		{"0", math.MinInt, 0, api.ErrRange},
		{"a", math.MaxInt, 0, api.ErrForm},
		{"1a", math.MaxInt, 0, api.ErrForm},
		{"F", math.MaxInt, 0, api.ErrForm},
	} {
		if got, e := Number(x.s, x.most); got != x.want || e != x.e {
			t.Errorf("Number(%q, %d) is %d, %d, want %d, %d", x.s, x.most, got, e, x.want, x.e)
		}
	}
}

func TestNumberOfWrongTexts(t *testing.T) {
	for _, s := range append(wrong(), "a", "f", "A", "F", "1a", "a1", "0f") {
		for _, most := range []int{math.MinInt, -1, 0, 100, math.MaxInt} {
			if got, e := Number(s, most); got != 0 || e != api.ErrForm {
				t.Errorf("Number(%q, %d) is %d, %d", s, most, got, e)
			}
		}
	}
}

func TestNumberOfEachByte(t *testing.T) {
	for c := range 256 {
		digit := c >= 48 && c <= 57
		for _, x := range []struct {
			s    string
			want int
		}{
			{string([]byte{byte(c)}), c - 48},
			{string([]byte{byte(c), '3'}), 10*(c-48) + 3},
			{string([]byte{'3', byte(c)}), 30 + c - 48},
		} {
			want, code := x.want, api.OK
			if !digit {
				want, code = 0, api.ErrForm
			}
			if got, e := Number(x.s, 99); got != want || e != code {
				t.Errorf("Number(%q, 99) is %d, %d, want %d, %d", x.s, got, e, want, code)
			}
		}
	}
}

func TestNumberOfEachLength(t *testing.T) {
	for length := range 40 {
		for _, last := range []string{"0", "1"} {
			s := strings.Repeat("0", length) + last
			want, code := int(last[0]-'0'), api.OK
			if len(s) > 18 {
				want, code = 0, api.ErrForm
			}
			if got, e := Number(s, 1); got != want || e != code {
				t.Errorf("Number(%q, 1) is %d, %d", s, got, e)
			}
		}
	}
}

func TestHex(t *testing.T) {
	for n, want := range map[int]string{
		0:            "0",
		1:            "1",
		9:            "9",
		10:           "a",
		15:           "f",
		16:           "10",
		255:          "ff",
		256:          "100",
		4096:         "1000",
		0xabcdef:     "abcdef",
		0x123456789:  "123456789",
		maxSeconds:   "80000000",
		most15:       "fffffffffffffff",
		most15 + 1:   "1000000000000000",
		math.MaxInt:  "7fffffffffffffff",
		-1:           "",
		-255:         "",
		-math.MaxInt: "",
		math.MinInt:  "",
	} {
		if got := Hex(n); got != want {
			t.Errorf("Hex(%d) is %q, want %q", n, got, want)
		}
	}
}

func TestHexOfEdges(t *testing.T) {
	for _, n := range edges() {
		want := ""
		if n >= 0 {
			want = fmt.Sprintf("%x", n)
		}
		if got := Hex(n); got != want {
			t.Errorf("Hex(%d) is %q, want %q", n, got, want)
		}
	}
}

func TestReadHex(t *testing.T) {
	for _, x := range []struct {
		s    string
		most int
		want int
		e    api.Errno
	}{
		{"0", 0, 0, api.OK},
		{"1", 0, 0, api.ErrRange},
		{"1A", 26, 26, api.OK},
		{"1a", 26, 26, api.OK},
		{"1b", 26, 0, api.ErrRange},
		{"ff", 255, 255, api.OK},
		{"FF", 255, 255, api.OK},
		{"fF", 254, 0, api.ErrRange},
		{"10", 16, 16, api.OK},
		{"00a", 10, 10, api.OK},
		{"abcdef", math.MaxInt, 0xabcdef, api.OK},
		{"ABCDEF", math.MaxInt, 0xabcdef, api.OK},
		{"0123456789", math.MaxInt, 0x123456789, api.OK},
		{"7fffffff", maxSeconds, maxSeconds - 1, api.OK},
		{"80000000", maxSeconds, maxSeconds, api.OK},
		{"80000001", maxSeconds, 0, api.ErrRange},
		{"fffffffffffffff", math.MaxInt, most15, api.OK},
		{"FFFFFFFFFFFFFFF", most15, most15, api.OK},
		{"fffffffffffffff", most15 - 1, 0, api.ErrRange},
		{"1000000000000000", math.MaxInt, 0, api.ErrForm},
		{"000000000000000", 0, 0, api.OK},
		{"00000000000000f", 15, 15, api.OK},
		{"00000000000000f", 14, 0, api.ErrRange},
		{"0000000000000000", 0, 0, api.ErrForm},
		{"000000000000000f", 15, 0, api.ErrForm},
		{"ffffffffffffffffffffffff", 0, 0, api.ErrForm},
		{"0", -1, 0, api.ErrRange},
		{"f", math.MinInt, 0, api.ErrRange},
	} {
		if got, e := ReadHex(x.s, x.most); got != x.want || e != x.e {
			t.Errorf("ReadHex(%q, %d) is %d, %d, want %d, %d", x.s, x.most, got, e, x.want, x.e)
		}
	}
}

func TestReadHexOfWrongTexts(t *testing.T) {
	for _, s := range append(wrong(), "1g", "g1", "fg", "aaaaaaaaaaaaaaz", "-f", "+f", " f", "f ") {
		for _, most := range []int{math.MinInt, -1, 0, 100, math.MaxInt} {
			if got, e := ReadHex(s, most); got != 0 || e != api.ErrForm {
				t.Errorf("ReadHex(%q, %d) is %d, %d", s, most, got, e)
			}
		}
	}
}

func TestReadHexOfEachByte(t *testing.T) {
	for c := range 256 {
		n := strings.IndexByte("0123456789abcdef", byte(c))
		if n < 0 {
			n = strings.IndexByte("0123456789ABCDEF", byte(c))
		}
		for _, x := range []struct {
			s    string
			want int
		}{
			{string([]byte{byte(c)}), n},
			{string([]byte{byte(c), 'b'}), 16*n + 11},
			{string([]byte{'C', byte(c)}), 192 + n},
		} {
			want, code := x.want, api.OK
			if n < 0 {
				want, code = 0, api.ErrForm
			}
			if got, e := ReadHex(x.s, 255); got != want || e != code {
				t.Errorf("ReadHex(%q, 255) is %d, %d, want %d, %d", x.s, got, e, want, code)
			}
		}
	}
}

func TestReadHexOfEachLength(t *testing.T) {
	for length := range 40 {
		for _, last := range []string{"0", "1"} {
			s := strings.Repeat("0", length) + last
			want, code := int(last[0]-'0'), api.OK
			if len(s) > 15 {
				want, code = 0, api.ErrForm
			}
			if got, e := ReadHex(s, 1); got != want || e != code {
				t.Errorf("ReadHex(%q, 1) is %d, %d", s, got, e)
			}
		}
	}
}

// P2.3

func TestSeconds(t *testing.T) {
	for s, want := range map[string]int{
		"0":                             0,
		"1":                             1,
		"9":                             9,
		"10":                            10,
		"60":                            60,
		"007":                           7,
		"1234567890":                    1234567890,
		"2147483646":                    maxSeconds - 2,
		"2147483647":                    maxSeconds - 1,
		"2147483648":                    maxSeconds,
		"2147483649":                    maxSeconds,
		"2147483650":                    maxSeconds,
		"4294967296":                    maxSeconds,
		"9223372036854775807":           maxSeconds,
		"9223372036854775808":           maxSeconds,
		"18446744073709551616":          maxSeconds,
		"18446744073709551617":          maxSeconds,
		"99999999999999999999":          maxSeconds,
		strings.Repeat("0", 1000):       0,
		strings.Repeat("0", 1000) + "7": 7,
		"1" + strings.Repeat("0", 1000): maxSeconds,
		strings.Repeat("9", 100000):     maxSeconds,
		strings.Repeat("0", 100000) + "2147483647": maxSeconds - 1,
		strings.Repeat("0", 100000) + "2147483649": maxSeconds,
	} {
		if got, ok := Seconds(s); got != want || !ok {
			t.Errorf("Seconds(%.40q) is %d, %v, want %d", s, got, ok, want)
		}
	}
}

func TestSecondsOfEachLength(t *testing.T) {
	for _, unit := range []string{"1", "2", "7", "10", "256", "65536", "4294967296", "9"} {
		for times := 1; times < 40; times++ {
			s := strings.Repeat(unit, times)
			n, _ := new(big.Int).SetString(s, 10)
			want := maxSeconds
			if n.Cmp(big.NewInt(maxSeconds)) < 0 {
				want = int(n.Int64())
			}
			if got, ok := Seconds(s); got != want || !ok {
				t.Errorf("Seconds(%q) is %d, %v, want %d", s, got, ok, want)
			}
		}
	}
}

func TestSecondsOfPowersOfTwo(t *testing.T) {
	for power := range 200 {
		for less := range int64(2) {
			n := new(big.Int).Lsh(big.NewInt(1), uint(power))
			n.Sub(n, big.NewInt(less))
			want := maxSeconds
			if n.Cmp(big.NewInt(maxSeconds)) < 0 {
				want = int(n.Int64())
			}
			if got, ok := Seconds(n.String()); got != want || !ok {
				t.Errorf("Seconds(%q) is %d, %v, want %d", n.String(), got, ok, want)
			}
		}
	}
}

func TestSecondsOfWrongTexts(t *testing.T) {
	long := strings.Repeat("9", 100)
	for _, s := range append(wrong(), "a", "F", "1a", "a1", "60s", "\"60\"", long+"x", "x"+long,
		long+"-", "-"+long, long+" "+long, long+"\xff", "0,1", "60, 30") {
		if got, ok := Seconds(s); got != 0 || ok {
			t.Errorf("Seconds(%q) is %d, %v", s, got, ok)
		}
	}
}

func TestSecondsOfEachByte(t *testing.T) {
	for c := range 256 {
		s := string([]byte{'1', byte(c), '2'})
		want, digit := 102+10*(c-48), c >= 48 && c <= 57
		if !digit {
			want = 0
		}
		if got, ok := Seconds(s); got != want || ok != digit {
			t.Errorf("Seconds(%q) is %d, %v", s, got, ok)
		}
	}
}

// P2.4

func TestAdd(t *testing.T) {
	for _, x := range []struct{ a, b, want int }{
		{0, 0, 0},
		{1, 2, 3},
		{30, 60, 90},
		{-5, 7, 7},
		{7, -5, 7},
		{-5, -7, 0},
		{-1, 0, 0},
		{maxSeconds, 0, maxSeconds},
		{maxSeconds, 1, maxSeconds},
		{maxSeconds, -1, maxSeconds},
		{maxSeconds - 1, 0, maxSeconds - 1},
		{maxSeconds - 1, 1, maxSeconds},
		{maxSeconds - 1, 2, maxSeconds},
		{maxSeconds - 2, 1, maxSeconds - 1},
		{maxSeconds + 1, 0, maxSeconds},
		{maxSeconds, maxSeconds, maxSeconds},
		{maxSeconds / 2, maxSeconds / 2, maxSeconds},
		{maxSeconds / 2, maxSeconds/2 - 1, maxSeconds - 1},
		{1 << 62, 1 << 62, maxSeconds},
		{math.MaxInt, math.MaxInt, maxSeconds},
		{math.MaxInt, 1, maxSeconds},
		{math.MaxInt, math.MinInt, maxSeconds},
		{math.MinInt, math.MinInt, 0},
		{math.MinInt, 5, 5},
		{math.MinInt, -1, 0},
	} {
		if got := Add(x.a, x.b); got != x.want {
			t.Errorf("Add(%d, %d) is %d, want %d", x.a, x.b, got, x.want)
		}
	}
}

func TestLess(t *testing.T) {
	for _, x := range []struct{ a, b, want int }{
		{0, 0, 0},
		{5, 3, 2},
		{3, 5, 0},
		{5, 5, 0},
		{5, 4, 1},
		{5, 6, 0},
		{5, 0, 5},
		{5, -3, 5},
		{-5, -7, 0},
		{-5, 7, 0},
		{-1, -2, 0},
		{maxSeconds, 0, maxSeconds},
		{maxSeconds, 1, maxSeconds - 1},
		{maxSeconds, -1, maxSeconds},
		{maxSeconds, maxSeconds, 0},
		{maxSeconds, maxSeconds - 1, 1},
		{maxSeconds, maxSeconds + 1, 0},
		{maxSeconds - 1, 0, maxSeconds - 1},
		{maxSeconds + 1, 0, maxSeconds},
		{maxSeconds + 1, 1, maxSeconds - 1},
		{maxSeconds + 5, maxSeconds + 2, 0},
		{maxSeconds + 5, maxSeconds - 1, 1},
		{0, maxSeconds, 0},
		{1 << 40, 1, maxSeconds - 1},
		{math.MaxInt, 0, maxSeconds},
		{math.MaxInt, -1, maxSeconds},
		{math.MaxInt, math.MinInt, maxSeconds},
		{math.MinInt, math.MaxInt, 0},
		{math.MinInt, 1, 0},
		{0, math.MinInt, 0},
		{5, math.MaxInt, 0},
	} {
		if got := Less(x.a, x.b); got != x.want {
			t.Errorf("Less(%d, %d) is %d, want %d", x.a, x.b, got, x.want)
		}
	}
}

// clamped answers an integer cut to 0 to maxSeconds, without the package.
func clamped(n *big.Int) int {
	switch {
	case n.Sign() < 0:
		return 0
	case n.Cmp(big.NewInt(maxSeconds)) > 0:
		return maxSeconds
	}
	return int(n.Int64())
}

func TestAddAndLessOfEdges(t *testing.T) {
	for _, a := range edges() {
		for _, b := range edges() {
			x := big.NewInt(int64(clamped(big.NewInt(int64(a)))))
			y := big.NewInt(int64(clamped(big.NewInt(int64(b)))))
			if got, want := Add(a, b), clamped(new(big.Int).Add(x, y)); got != want {
				t.Errorf("Add(%d, %d) is %d, want %d", a, b, got, want)
			}
			if got, want := Less(a, b), clamped(new(big.Int).Sub(x, y)); got != want {
				t.Errorf("Less(%d, %d) is %d, want %d", a, b, got, want)
			}
		}
	}
}

// P2.5

func TestNumbersAreReadBack(t *testing.T) {
	for _, n := range append(edges(), 42, 1<<20, 123456789012345678) {
		if n < 0 {
			if got, e := Number(Plain(n), math.MaxInt); got != 0 || e != api.ErrForm {
				t.Errorf("Number of Plain(%d) is %d, %d", n, got, e)
			}
			continue
		}
		if got, e := Number(Plain(n), n); n <= most18 && (got != n || e != api.OK) {
			t.Errorf("Number of Plain(%d) is %d, %d", n, got, e)
		}
		if got, e := ReadHex(Hex(n), n); n <= most15 && (got != n || e != api.OK) {
			t.Errorf("ReadHex of Hex(%d) is %d, %d", n, got, e)
		}
		if got, e := ReadHex(strings.ToUpper(Hex(n)), n); n <= most15 && (got != n || e != api.OK) {
			t.Errorf("ReadHex of Hex(%d) in upper case is %d, %d", n, got, e)
		}
		if got, ok := Seconds(Plain(n)); got != min(n, maxSeconds) || !ok {
			t.Errorf("Seconds of Plain(%d) is %d, %v", n, got, ok)
		}
	}
}

func TestPaddedNumbersAreReadBack(t *testing.T) {
	for n := range 1200 {
		for width := range 11 {
			s := Pad(n, width)
			if got, e := Number(s, n); got != n || e != api.OK {
				t.Errorf("Number(%q) is %d, %d", s, got, e)
			}
			if got, ok := Seconds(s); got != n || !ok {
				t.Errorf("Seconds(%q) is %d, %v", s, got, ok)
			}
		}
		if got, e := ReadHex(Hex(n), n); got != n || e != api.OK {
			t.Errorf("ReadHex of Hex(%d) is %d, %d", n, got, e)
		}
	}
}

func TestOneLessThanItselfIsOutOfRange(t *testing.T) {
	for _, n := range edges() {
		if n < 0 || n > most18 {
			continue
		}
		if got, e := Number(Plain(n), n-1); got != 0 || e != api.ErrRange {
			t.Errorf("Number of Plain(%d) with one less is %d, %d", n, got, e)
		}
		if got, e := ReadHex(Hex(n), n-1); n <= most15 && (got != 0 || e != api.ErrRange) {
			t.Errorf("ReadHex of Hex(%d) with one less is %d, %d", n, got, e)
		}
	}
}

func TestAddIsCommutativeAndBounded(t *testing.T) {
	for _, a := range edges() {
		for _, b := range edges() {
			if Add(a, b) != Add(b, a) {
				t.Errorf("Add(%d, %d) is not Add(%d, %d)", a, b, b, a)
			}
			if n := Add(a, b); n < 0 || n > maxSeconds {
				t.Errorf("Add(%d, %d) is %d", a, b, n)
			}
			if n := Less(a, b); n < 0 || n > maxSeconds {
				t.Errorf("Less(%d, %d) is %d", a, b, n)
			}
		}
	}
}

func TestAddIsMonotonic(t *testing.T) {
	for _, a := range edges() {
		for _, b := range edges() {
			for _, c := range edges() {
				if a <= b && (Add(a, c) > Add(b, c) || Add(c, a) > Add(c, b)) {
					t.Errorf("Add of %d is more than of %d, with %d", a, b, c)
				}
			}
		}
	}
}

// The minimum of any number of arguments, on which the cuts lean.

func TestLeast(t *testing.T) {
	for _, x := range []struct{ got, want int }{
		{least(5), 5},
		{least(5, 3), 3},
		{least(3, 5), 3},
		{least(3, 5, 1, 4), 1},
		{least(5, 3, 1), 1},
		{least(3, 5, 4, -1), -1},
		{least(math.MaxInt, math.MinInt), math.MinInt},
		{least(2, 2, 2), 2},
	} {
		if x.got != x.want {
			t.Errorf("least is %d, want %d", x.got, x.want)
		}
	}
}
