package crc

import (
	"bytes"
	"hash/crc32"
	"math"
	"math/rand"
	"slices"
	"testing"
)

// The numbers that the document names, written out, so that a test does not
// lean on the constants that the package uses.
const (
	poly    = 2197175160
	words   = 1 << 32 // how many states, and sums, there are
	maxBits = 32      // of a burst
)

// castagnoli is the library's table of the same checksum.
var castagnoli = crc32.MakeTable(crc32.Castagnoli)

// library answers the sum as the library computes it.
func library(b []byte) int {
	return int(crc32.Checksum(b, castagnoli))
}

// told answers what a step leads to, by the words of the document alone.
func told(c int, x byte) int {
	c = (c%words + words) % words
	c = c - c%256 + (c%256 ^ int(x))
	for range 8 {
		odd := c%2 == 1
		c = c / 2
		if odd {
			c ^= poly
		}
	}
	return c
}

// states are states of all kinds, those beyond 32 bits and below 0 among them.
func states() []int {
	l := []int{math.MinInt, math.MinInt + 1, math.MaxInt - 1, math.MaxInt, 0, 1, 2, 127, 128,
		255, 256, poly, poly - words, poly + words, 0x1234567890abcdef, -0x1234567890abcdef}
	for i := range 63 {
		l = append(l, 1<<i, 1<<i-1, -1<<i)
	}
	return l
}

// texts are bytes of all kinds and of many lengths, the same ones in each run.
func texts() [][]byte {
	l := [][]byte{nil, {}, {0}, {1}, {128}, {255}, []byte("a"), []byte("abc"), []byte("123456789"),
		[]byte("The quick brown fox jumps over the lazy dog")}
	random := rand.New(rand.NewSource(4))
	for length := range 70 {
		one := make([]byte, length)
		random.Read(one)
		l = append(l, one, make([]byte, length), bytes.Repeat([]byte{255}, length))
	}
	long := make([]byte, 65537)
	random.Read(long)
	return append(l, long[:511], long[:512], long[:65536], long)
}

// P4.1

func TestStep(t *testing.T) {
	for _, x := range []struct {
		c    int
		x    byte
		want int
	}{
		{0, 0, 0},
		{0, 128, poly},
		{128, 0, poly},
		{128, 128, 0},
		{1, 1, 0},
		{255, 255, 0},
		{0, 64, poly / 2},
		{64, 0, poly / 2},
		{0, 255, 0xAD7D5351},
		{256, 0, 1},
		{0xFFFFFF00, 0, 0x00FFFFFF},
		{0xFFFFFFFF, 255, 0x00FFFFFF},
		{0xFFFFFFFF, 0, 0x00FFFFFF ^ 0xAD7D5351},
	} {
		if got := Step(x.c, x.x); got != x.want {
			t.Errorf("Step(%#x, %d) is %#x, want %#x", x.c, x.x, got, x.want)
		}
	}
}

func TestStepOfEachByte(t *testing.T) {
	for _, c := range states() {
		for x := range 256 {
			if got, want := Step(c, byte(x)), told(c, byte(x)); got != want {
				t.Errorf("Step(%#x, %d) is %#x, want %#x", c, x, got, want)
			}
		}
	}
}

func TestStepIsTheLibrarys(t *testing.T) {
	for x := range 256 {
		if got, want := Step(0, byte(x)), int(castagnoli[x]); got != want {
			t.Errorf("Step(0, %d) is %#x, want %#x", x, got, want)
		}
	}
}

func TestStepTakesTheLowestBits(t *testing.T) {
	for _, c := range states() {
		low := c & (words - 1)
		for _, x := range []byte{0, 1, 128, 255} {
			got := Step(c, x)
			if got != Step(low, x) {
				t.Errorf("Step(%#x, %d) is %#x, but not for its lowest bits", c, x, got)
			}
			if got < 0 || got >= words {
				t.Errorf("Step(%#x, %d) is %d, out of range", c, x, got)
			}
		}
	}
}

// P4.2

func TestSum(t *testing.T) {
	counted := make([]byte, 32)
	for i := range counted {
		counted[i] = byte(i)
	}
	reversed := slices.Clone(counted)
	slices.Reverse(reversed)
	for _, x := range []struct {
		b    []byte
		want int
	}{
		{nil, 0},
		{[]byte{}, 0},
		{[]byte("123456789"), 3808858755},
		{[]byte("a"), 0xC1D04330},
		{[]byte("abc"), 0x364B3FB7},
		{[]byte{0}, 0x527D5351},
		{make([]byte, 32), 0x8A9136AA},
		{bytes.Repeat([]byte{255}, 32), 0x62A8AB43},
		{counted, 0x46DD794E},
		{reversed, 0x113FDB5C},
		{[]byte{255, 255, 255, 255}, words - 1},
	} {
		if got := Sum(x.b); got != x.want {
			t.Errorf("Sum of %q is %#x, want %#x", x.b, got, x.want)
		}
	}
}

func TestSumIsTheLibrarys(t *testing.T) {
	for _, b := range texts() {
		if got, want := Sum(b), library(b); got != want {
			t.Errorf("Sum of %d bytes %.16q is %#x, want %#x", len(b), b, got, want)
		}
	}
}

func TestSumIsOfSteps(t *testing.T) {
	for _, b := range texts() {
		c := words - 1
		for _, x := range b {
			c = Step(c, x)
		}
		if got, want := Sum(b), words-1-c; got != want {
			t.Errorf("Sum of %d bytes %.16q is %#x, by steps %#x", len(b), b, got, want)
		}
	}
}

func TestSumOfTwoBytes(t *testing.T) {
	for n := range 1 << 16 {
		b := []byte{byte(n), byte(n >> 8)}
		if got, want := Sum(b), library(b); got != want {
			t.Fatalf("Sum of %v is %#x, want %#x", b, got, want)
		}
	}
}

func TestSumGoesByLengthNotCapacity(t *testing.T) {
	b := []byte("123456789 and more")
	if n := Sum(b[:9]); n != 3808858755 {
		t.Errorf("Sum of a part is %d", n)
	}
}

func TestMoreAtEachCut(t *testing.T) {
	for _, b := range texts()[:160] {
		want := Sum(b)
		for i := range len(b) + 1 {
			if got := More(Sum(b[:i]), b[i:]); got != want {
				t.Errorf("More of %q behind %d bytes is %#x, want %#x", b, i, got, want)
			}
		}
	}
}

func TestMoreByteForByte(t *testing.T) {
	for _, b := range texts() {
		sum := 0
		for i := range b {
			sum = More(sum, b[i:i+1])
		}
		if sum != library(b) {
			t.Errorf("More of each of %d bytes is %#x, want %#x", len(b), sum, library(b))
		}
	}
}

func TestMoreOfNoBytes(t *testing.T) {
	for _, sum := range states() {
		for _, b := range [][]byte{nil, {}} {
			if got, want := More(sum, b), sum&(words-1); got != want {
				t.Errorf("More(%#x) of nothing is %#x, want %#x", sum, got, want)
			}
		}
	}
}

func TestMoreTakesTheLowestBits(t *testing.T) {
	for _, sum := range states() {
		for _, b := range [][]byte{{0}, {255}, []byte("123456789"), make([]byte, 40)} {
			got, want := More(sum, b), int(crc32.Update(uint32(sum&(words-1)), castagnoli, b))
			if got != want {
				t.Errorf("More(%#x, %q) is %#x, want %#x", sum, b, got, want)
			}
		}
	}
}

func TestMoreHangsOnTheSumAlone(t *testing.T) {
	// 4 bytes can lead from any state to any other one, so a longer text gets
	// the sum of "ab" by the 4 bytes behind it.
	want := Sum([]byte("ab"))
	other := append([]byte("other"), reach(Sum([]byte("other")), want)...)
	if got := Sum(other); got != want {
		t.Fatalf("Sum of %q is %#x, want %#x", other, got, want)
	}
	for _, more := range texts() {
		if got, want := More(want, more), Sum(slices.Concat(other, more)); got != want {
			t.Errorf("More of %d bytes is %#x, want %#x", len(more), got, want)
		}
	}
}

// reach answers the 4 bytes behind which one sum becomes another one. It goes
// back from the state wanted, by the table's highest bytes, which all differ.
func reach(from, to int) []byte {
	state := ^uint32(to)
	for range 4 {
		for x, word := range castagnoli {
			if word>>24 == state>>24 {
				state = (state^word)<<8 | uint32(x)
				break
			}
		}
	}
	state ^= ^uint32(from)
	return []byte{byte(state), byte(state >> 8), byte(state >> 16), byte(state >> 24)}
}

func TestCheck(t *testing.T) {
	for _, b := range texts() {
		sum := library(b)
		if !Check(b, sum) {
			t.Errorf("Check of %d bytes %.16q says no to their sum", len(b), b)
		}
		for i := range 32 {
			if Check(b, sum^1<<i) {
				t.Errorf("Check of %d bytes says yes to another sum", len(b))
			}
		}
		wrong := []int{sum + words, sum - words, sum + 1, sum - 1, -1 - sum, sum | math.MinInt,
			math.MinInt, math.MaxInt, -1, words}
		for _, other := range wrong {
			if Check(b, other) {
				t.Errorf("Check of %d bytes says yes to %d, their sum is %d", len(b), other, sum)
			}
		}
	}
}

func TestCheckOfNoBytes(t *testing.T) {
	for _, b := range [][]byte{nil, {}} {
		if !Check(b, 0) || Check(b, 1) || Check(b, words-1) || Check(b, words) || Check(b, -1) {
			t.Error("Check of no bytes")
		}
	}
}

func TestArgumentsStay(t *testing.T) {
	for _, b := range texts() {
		was := slices.Clone(b)
		Sum(b)
		More(7, b)
		Check(b, 7)
		if !bytes.Equal(b, was) {
			t.Errorf("%d bytes were changed", len(b))
		}
	}
}

// P4.3

func TestSumIsInRange(t *testing.T) {
	for _, b := range texts() {
		for _, n := range []int{Sum(b), More(-1, b), More(math.MinInt, b), More(math.MaxInt, b)} {
			if n < 0 || n >= words {
				t.Errorf("a sum of %d bytes is %d, out of range", len(b), n)
			}
		}
	}
	seen := make(map[int]bool) // both halves of the range are met
	for n := range 256 {
		seen[Sum([]byte{byte(n)})>>31] = true
	}
	if !seen[0] || !seen[1] || len(seen) != 2 {
		t.Error("the sums of single bytes have the highest bits", seen)
	}
}

// flipped answers bytes in which the bits of a pattern are inverted, from a
// bit on; false if the pattern would go beyond their end.
func flipped(b []byte, from int, pattern uint32) ([]byte, bool) {
	b = slices.Clone(b)
	for i := range maxBits {
		if pattern>>i&1 == 0 {
			continue
		}
		if from+i >= 8*len(b) {
			return nil, false
		}
		b[(from+i)/8] ^= 1 << ((from + i) % 8)
	}
	return b, true
}

// patterns are bursts, each with its first bit inverted: all short ones, all
// of two bits, and some of each length.
func patterns() []uint32 {
	var l []uint32
	for n := range 1 << 8 {
		l = append(l, uint32(n)<<1|1)
	}
	random := rand.New(rand.NewSource(43))
	for length := 2; length <= maxBits; length++ {
		last := uint32(1) << (length - 1)
		l = append(l, last|1, last|(last-1))
		for range 8 {
			l = append(l, random.Uint32()&(last-1)|last|1)
		}
	}
	return append(l, poly|1)
}

func TestBurstsChangeTheSum(t *testing.T) {
	random := rand.New(rand.NewSource(44))
	for _, length := range []int{1, 2, 3, 4, 5, 8, 16, 64} {
		b := make([]byte, length)
		random.Read(b)
		sum := Sum(b)
		for _, pattern := range patterns() {
			for from := range 8 * length {
				other, ok := flipped(b, from, pattern)
				if ok && (Sum(other) == sum || Check(other, sum)) {
					t.Errorf("the burst %#x from bit %d of %d bytes on leaves the sum", pattern, from, length)
				}
			}
		}
	}
}

func TestAllBurstsOfTwoBytes(t *testing.T) {
	// All bytes of this length differ within a burst, so all sums differ.
	sums := make(map[int]int)
	for n := range 1 << 16 {
		sum := Sum([]byte{7, byte(n), byte(n >> 8), 7})
		if other, ok := sums[sum]; ok {
			t.Fatalf("%#x and %#x have the sum %#x", n, other, sum)
		}
		sums[sum] = n
	}
}

func TestLongerBurstCanLeaveTheSum(t *testing.T) {
	// The polynomial itself, 33 bits, is the shortest change that the sum does
	// not see: a sum that saw it would be of another polynomial.
	b := []byte("12345678")
	b[0] ^= 1 // the highest power, and behind it the 32 other ones
	other, ok := flipped(b, 1, poly)
	if !ok || Sum(other) != Sum([]byte("12345678")) {
		t.Error("the polynomial changes the sum")
	}
}

// xor answers the exclusive or of slices of equal length.
func xor(lists ...[]byte) []byte {
	b := make([]byte, len(lists[0]))
	for _, list := range lists {
		for i, x := range list {
			b[i] ^= x
		}
	}
	return b
}

func TestSumOfExclusiveOr(t *testing.T) {
	random := rand.New(rand.NewSource(45))
	for _, length := range []int{0, 1, 2, 3, 4, 5, 7, 8, 9, 31, 32, 33, 255, 512, 4096} {
		for range 20 {
			a, b, c := make([]byte, length), make([]byte, length), make([]byte, length)
			random.Read(a)
			random.Read(b)
			random.Read(c)
			for _, x := range [][3][]byte{{a, b, c}, {a, a, b}, {a, a, a}, {a, b, make([]byte, length)}} {
				got := Sum(xor(x[0], x[1], x[2]))
				if want := Sum(x[0]) ^ Sum(x[1]) ^ Sum(x[2]); got != want {
					t.Errorf("Sum of the exclusive or of %d bytes is %#x, want %#x", length, got, want)
				}
			}
		}
	}
}
