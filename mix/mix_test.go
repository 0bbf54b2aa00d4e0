package mix

import (
	"math"
	"math/big"
	"math/rand"
	"strings"
	"testing"
)

// The numbers that the document names, written out, so that a test does not
// lean on the constants that the package uses.
const (
	docPrime  = 1099511628211
	docGolden = 11400714819323198485
	maxHash   = 1<<64 - 1
	toZero    = -7046029254386353131 // the seed from which a hash starts at 0
)

// power answers a power of 2.
func power(n uint) *big.Int {
	return new(big.Int).Lsh(big.NewInt(1), n)
}

// folded answers a number combined by exclusive or with its quotient.
func folded(n *big.Int, by *big.Int) *big.Int {
	return new(big.Int).Xor(n, new(big.Int).Quo(n, by))
}

// product answers a product modulo 2^64.
func product(n *big.Int, by uint64) *big.Int {
	n = new(big.Int).Mul(n, new(big.Int).SetUint64(by))
	return n.Mod(n, power(64))
}

// stepped answers what a step leads to, by the words of the document alone and
// in integers that have no end.
func stepped(h *big.Int, c byte) *big.Int {
	n := new(big.Int).Xor(h, big.NewInt(int64(c)))
	return folded(product(n, docPrime), power(29))
}

// told is stepped for a state.
func told(h uint64, c byte) uint64 {
	return stepped(new(big.Int).SetUint64(h), c).Uint64()
}

// toldHash answers a hash in the same way.
func toldHash(seed int, s string) uint64 {
	h := new(big.Int).Mod(big.NewInt(int64(seed)), power(64))
	h.Xor(h, new(big.Int).SetUint64(docGolden))
	for i := range len(s) {
		h = stepped(h, s[i])
	}
	h.Xor(h, big.NewInt(int64(len(s))))
	return folded(product(h, docGolden), power(32)).Uint64()
}

// states are states, and hashes, of all kinds, each once: those around each
// power of 2, what the document's numbers are, and some that come as they come.
func states() []uint64 {
	l := []uint64{0, 255, maxHash, maxHash - 1, maxHash - 255, docPrime, docGolden,
		^uint64(docPrime), ^uint64(docGolden), 0x0123456789abcdef, 0x5555555555555555}
	for i := range 64 {
		l = append(l, 1<<i, 1<<i-1, 1<<i+1, ^uint64(1<<i), maxHash<<i)
	}
	random := rand.New(rand.NewSource(5))
	for range 500 {
		l = append(l, random.Uint64())
	}
	return once(l)
}

// once answers a list without what occurs again.
func once[T comparable](list []T) []T {
	var l []T
	seen := make(map[T]bool)
	for _, x := range list {
		if !seen[x] {
			l = append(l, x)
		}
		seen[x] = true
	}
	return l
}

// seeds are seeds of all kinds, each once.
func seeds() []int {
	l := []int{0, 1, -1, 7, -7, math.MaxInt, math.MaxInt - 1, math.MinInt, math.MinInt + 1,
		toZero, toZero - 1, toZero + 1, docPrime, -docPrime}
	for i := range 63 {
		l = append(l, 1<<i, -1<<i, 1<<i-1, -1<<i-1)
	}
	random := rand.New(rand.NewSource(51))
	for range 100 {
		l = append(l, int(random.Uint64()), random.Intn(1000), -random.Intn(1000))
	}
	return once(l)
}

// texts are strings of all kinds and of many lengths, each once.
func texts() []string {
	l := []string{"", "ab", "ba", "abc", "http://a:80/x", "http://a:80/y", "\u00e4\u20ac\U0001d7ce",
		"\xc3", "\xa4\xc3", "\x80\xff", "a\x00", "\x00a", "a\x00b", "\r\n", "\t ", "Ab", "AB"}
	for c := range 256 {
		l = append(l, string([]byte{byte(c)}))
	}
	random := rand.New(rand.NewSource(52))
	for length := range 40 {
		one := make([]byte, length)
		random.Read(one)
		l = append(l, string(one), strings.Repeat("\x00", length), strings.Repeat("\xff", length))
	}
	long := make([]byte, 65536)
	random.Read(long)
	return once(append(l, string(long[:255]), string(long[:256]), string(long[:257]), string(long)))
}

// P5.1

func TestStep(t *testing.T) {
	for _, x := range []struct {
		h    uint64
		c    byte
		want uint64
	}{
		{0, 1, 1099511630259},
		{0, 0, 0},
		{1, 0, 0x100000009b3},
		{1, 1, 0},
		{0, 2, 0x20000001366},
		{0, 255, 0xff000006494d},
		{255, 0, 0xff000006494d},
		{255, 255, 0},
		{maxHash, 0, 0xfffffef8000009b2},
		{maxHash, 1, 0xfffffdf800001365},
		{maxHash, 255, 0xfffefff80009b2ff},
		{1 << 63, 0, 0x8000000400000000},
		{1 << 63, 128, 0x800080040004d980},
		{1 << 29, 0, 0x36600001b3},
		{1 << 35, 7, 0x14980000af25},
		{docPrime, 0, 0x366000019d329},
		{0x0123456789abcdef, 0xef, 0x9abbeeea3b322077},
	} {
		if got := Step(x.h, x.c); got != x.want {
			t.Errorf("Step(%#x, %d) is %#x, want %#x", x.h, x.c, got, x.want)
		}
	}
}

func TestStepOfEachByte(t *testing.T) {
	for _, h := range states() {
		for c := range 256 {
			if got, want := Step(h, byte(c)), told(h, byte(c)); got != want {
				t.Errorf("Step(%#x, %d) is %#x, want %#x", h, c, got, want)
			}
		}
	}
}

func TestUndo(t *testing.T) {
	for _, x := range []struct {
		h    uint64
		c    byte
		want uint64
	}{
		{1099511630259, 1, 0},
		{1099511630259, 0, 1},
		{0, 0, 0},
		{0, 1, 1},
		{0, 255, 255},
		{1, 0, 0xce965057aff6957b},
		{1, 255, 0xce965057aff69584},
		{maxHash, 0, 0x574919bc4daec945},
		{maxHash, 255, 0x574919bc4daec9ba},
		{1 << 63, 0, 0x12a460e1fed2af60},
		{1 << 63, 1, 0x12a460e1fed2af61},
		{1 << 58, 0, 0xb09523070ff6957b},
		{1 << 29, 0, 0xc49523070ff6957b},
		{0x0123456789abcdef, 0xef, 0xe40040156c94b68e},
	} {
		if got := Undo(x.h, x.c); got != x.want {
			t.Errorf("Undo(%#x, %d) is %#x, want %#x", x.h, x.c, got, x.want)
		}
	}
}

func TestUndoIsTheStateBefore(t *testing.T) {
	for _, h := range states() {
		for c := range 256 {
			if got := told(Undo(h, byte(c)), byte(c)); got != h {
				t.Errorf("Undo(%#x, %d) is %#x, which steps to %#x", h, c, Undo(h, byte(c)), got)
			}
			if got := Undo(told(h, byte(c)), byte(c)); got != h {
				t.Errorf("Undo of %#x stepped by %d is %#x", h, c, got)
			}
		}
	}
}

// P5.2

func TestHash(t *testing.T) {
	var all strings.Builder
	for c := range 256 {
		all.WriteByte(byte(c))
	}
	for _, x := range []struct {
		seed int
		s    string
		want uint64
	}{
		{0, "", 0xdf442d22110c749b},
		{1, "", 0x410cb3690ff16ecd},
		{-1, "", 0x8284592330e97311},
		{math.MinInt, "", 0x5f442d22910c749b},
		{math.MaxInt, "", 0x2845923b0e97311},
		{0, "a", 0xa132a1a8058b16bb},
		{0, "\x00", 0x6713ac3ec81c767a},
		{0, "\x00\x00", 0x9cb857cf9b91b859},
		{0, "\xff", 0x4b5b62af33c6cec6},
		{7, "ab", 0xcb2d4e6187fc361c},
		{7, "ba", 0x81dbdd9d5a886e4a},
		{-5, "ab", 0x58d6bfab72a3485f},
		{math.MinInt, "ab", 0xd192242f11d7bc71},
		{math.MaxInt, "ab", 0xabe36bf0fabcfbd8},
		{toZero, "", 0},
		{toZero, "\x00", 0x9e3779b9e17d05ac},
		{toZero, "\x00\x00", 0x3c6ef372c2fa0b58},
		{toZero, "\x01", 0x40563d7460713eee},
		{42, "http://a:80/x", 0x208e64e7899e0e89},
		{3, all.String(), 0xf80cda2b89bb5a2b},
	} {
		if got := Hash(x.seed, x.s); got != x.want {
			t.Errorf("Hash(%d, %q) is %#x, want %#x", x.seed, x.s, got, x.want)
		}
	}
}

func TestHashOfTexts(t *testing.T) {
	for _, seed := range []int{0, 1, -1, 7, math.MaxInt, math.MinInt, toZero} {
		for _, s := range texts() {
			if got, want := Hash(seed, s), toldHash(seed, s); got != want {
				t.Errorf("Hash(%d) of %d bytes %.16q is %#x, want %#x", seed, len(s), s, got, want)
			}
		}
	}
}

func TestHashOfSeeds(t *testing.T) {
	for _, seed := range seeds() {
		for _, s := range []string{"", "\x00", "\xff", "a", "http://a:80/x"} {
			if got, want := Hash(seed, s), toldHash(seed, s); got != want {
				t.Errorf("Hash(%d, %q) is %#x, want %#x", seed, s, got, want)
			}
		}
	}
}

func TestHashIsOfSteps(t *testing.T) {
	for _, s := range texts() {
		h := uint64(docGolden) ^ 9
		for i := range len(s) {
			h = Step(h, s[i])
		}
		h = (h ^ uint64(len(s))) * docGolden
		if got, want := Hash(9, s), h^h/(1<<32); got != want {
			t.Errorf("Hash of %d bytes %.16q is %#x, by steps %#x", len(s), s, got, want)
		}
	}
}

func TestHashGoesByTheLength(t *testing.T) {
	// From this seed on, bytes of 0 leave the state 0: only the lengths differ.
	seen := make(map[uint64]int)
	for length := range 300 {
		h := Hash(toZero, strings.Repeat("\x00", length))
		if other, ok := seen[h]; ok {
			t.Errorf("%d and %d bytes of 0 have the hash %#x", other, length, h)
		}
		seen[h] = length
	}
}

func TestHashStays(t *testing.T) {
	for _, s := range texts() {
		was := strings.Clone(s)
		if h := Hash(-3, s); Hash(-3, was) != h || Hash(-3, s) != h || s != was {
			t.Errorf("Hash of %d bytes %.16q differs from call to call", len(s), s)
		}
	}
}

// P5.3

func TestSet(t *testing.T) {
	for _, x := range []struct {
		h    uint64
		sets int
		want int
	}{
		{7, 4, 3},
		{0, 1, 0},
		{0, 64, 0},
		{63, 64, 63},
		{64, 64, 0},
		{65, 64, 1},
		{100, 7, 2},
		{maxHash, 1, 0},
		{maxHash, 2, 1},
		{maxHash, 10, 5},
		{maxHash, 64, 63},
		{maxHash, math.MaxInt, 1},
		{maxHash - 1, math.MaxInt, 0},
		{1 << 63, math.MaxInt, 1},
		{math.MaxInt, math.MaxInt, 0},
		{math.MaxInt - 1, math.MaxInt, math.MaxInt - 1},
		{1<<63 - 1 + 5, math.MaxInt, 5},
		{0, 0, 0},
		{7, 0, 0},
		{7, -1, 0},
		{7, -4, 0},
		{maxHash, 0, 0},
		{maxHash, -1, 0},
		{maxHash, math.MinInt, 0},
		{1<<63 + 5, math.MinInt, 0},
	} {
		if got := Set(x.h, x.sets); got != x.want {
			t.Errorf("Set(%#x, %d) is %d, want %d", x.h, x.sets, got, x.want)
		}
	}
}

func TestSetIsTheRemainder(t *testing.T) {
	counts := seeds()
	for n := range 70 {
		counts = append(counts, n)
	}
	for _, h := range states() {
		for _, sets := range counts {
			want := new(big.Int)
			if sets >= 1 {
				want.Mod(new(big.Int).SetUint64(h), big.NewInt(int64(sets)))
			}
			if got := Set(h, sets); big.NewInt(int64(got)).Cmp(want) != 0 {
				t.Errorf("Set(%#x, %d) is %d, want %s", h, sets, got, want)
			}
		}
	}
}

func TestPart(t *testing.T) {
	for h, want := range map[uint64]int{
		0:                  0,
		1:                  0,
		1<<48 - 1:          0,
		1 << 48:            1,
		1<<48 + 1:          1,
		2<<48 - 1:          1,
		2 << 48:            2,
		1<<63 - 1:          32767,
		1 << 63:            32768,
		65535<<48 - 1:      65534,
		65535 << 48:        65535,
		maxHash:            65535,
		0x0123456789abcdef: 0x0123,
		0xfedcba9876543210: 0xfedc,
	} {
		if got := Part(h); got != want {
			t.Errorf("Part(%#x) is %d, want %d", h, got, want)
		}
	}
}

func TestEachPart(t *testing.T) {
	for part := range 65536 {
		first := uint64(part) << 48
		if low, high := Part(first), Part(first+(1<<48-1)); low != part || high != part {
			t.Errorf("Part around %#x is %d and %d, want %d", first, low, high, part)
		}
	}
}

func TestPartIsTheQuotient(t *testing.T) {
	for _, h := range states() {
		want := new(big.Int).Quo(new(big.Int).SetUint64(h), power(48)).Int64()
		if got := Part(h); int64(got) != want || got < 0 || got > 65535 {
			t.Errorf("Part(%#x) is %d, want %d", h, got, want)
		}
	}
}

// P5.4

func TestUndoAndStepAreInverses(t *testing.T) {
	random := rand.New(rand.NewSource(53))
	l := states()
	for range 5000 {
		l = append(l, random.Uint64())
	}
	for _, h := range l {
		for c := range 256 {
			if got := Undo(Step(h, byte(c)), byte(c)); got != h {
				t.Errorf("%#x stepped and undone by %d is %#x", h, c, got)
			}
			if got := Step(Undo(h, byte(c)), byte(c)); got != h {
				t.Errorf("%#x undone and stepped by %d is %#x", h, c, got)
			}
		}
	}
}

func TestTextsAreUndone(t *testing.T) {
	for i, s := range texts() {
		start := states()[i%100]
		h := start
		for j := range len(s) {
			h = Step(h, s[j])
		}
		for j := len(s) - 1; j >= 0; j-- {
			h = Undo(h, s[j])
		}
		if h != start {
			t.Errorf("%d bytes %.16q stepped and undone from %#x on lead to %#x", len(s), s, start, h)
		}
	}
}

func TestStepsOfAByteDiffer(t *testing.T) {
	for _, c := range []byte{0, 1, 127, 128, 255} {
		seen := make(map[uint64]uint64)
		for _, h := range states() {
			next := Step(h, c)
			if other, ok := seen[next]; ok {
				t.Errorf("%#x and %#x are stepped by %d to %#x", other, h, c, next)
			}
			seen[next] = h
		}
	}
}

// different tells whether a text has another hash for each of the seeds, which
// all differ.
func different(t *testing.T, s string, seeds []int) {
	t.Helper()
	seen := make(map[uint64]int)
	for _, seed := range seeds {
		h := Hash(seed, s)
		if other, ok := seen[h]; ok {
			t.Errorf("%d bytes %.16q have the hash %#x for the seeds %d and %d", len(s), s, h, other, seed)
		}
		seen[h] = seed
	}
}

func TestSeedsHaveDifferentHashes(t *testing.T) {
	l := seeds()
	for _, s := range texts() {
		if len(s) < 1000 {
			different(t, s, l)
		} else {
			different(t, s, l[:30])
		}
	}
}

func TestNearSeedsHaveDifferentHashes(t *testing.T) {
	var l []int
	for n := range 50000 {
		l = append(l, n-25000)
	}
	for n := range 5000 {
		l = append(l, math.MinInt+n, math.MaxInt-n, toZero+n)
	}
	for _, s := range []string{"", "\x00", "\xff", "a", "http://a:80/x"} {
		different(t, s, l)
	}
}

func TestSeedsOfOneBitHaveDifferentHashes(t *testing.T) {
	for _, s := range texts()[:300] {
		for _, seed := range []int{0, -1, 7, toZero, math.MinInt} {
			h := Hash(seed, s)
			for i := range 64 {
				if other := int(uint64(seed) ^ 1<<i); Hash(other, s) == h {
					t.Errorf("%q has the hash %#x for the seeds %d and %d", s, h, seed, other)
				}
			}
		}
	}
}
