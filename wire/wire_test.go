package wire

import (
	"bytes"
	"encoding/binary"
	"math"
	"slices"
	"strings"
	"testing"

	"depot/api"
)

// The limits that the document names, written out, so that a test does not
// lean on the constants that the package uses.
const (
	maxWide    = 7
	maxMessage = 65536
)

// tops are the greatest integers of each width, from 1 byte on.
var tops = []int{255, 65535, 16777215, 4294967295, 1099511627775, 281474976710655, 72057594037927935}

// wrongWidths are widths that no integer has.
var wrongWidths = []int{math.MinInt, -8, -7, -4, -1, 0, 8, 9, 64, 1 << 32, math.MaxInt}

// edges are the integers around which the promises change.
func edges() []int {
	l := []int{math.MinInt, math.MinInt + 1, -(1 << 56), -256, -255, -2, -1, 0, 1, 2, 127, 128,
		0x0102, 0x010203, 0x01020304, 0x0102030405, 0x010203040506, 0x01020304050607,
		0x80808080808080, math.MaxInt - 1, math.MaxInt}
	for _, n := range tops {
		l = append(l, n-1, n, n+1)
	}
	return l
}

// little answers the bytes of an integer, as the library writes them.
func little(n int, width int) []byte {
	var b [8]byte
	binary.LittleEndian.PutUint64(b[:], uint64(n))
	return b[:width]
}

// roomy answers a slice with room behind it, and all of that room.
func roomy(length int) ([]byte, []byte) {
	all := bytes.Repeat([]byte{77}, 64)
	return all[:length], all
}

// P3.1

func TestMaxWide(t *testing.T) {
	if MaxWide != maxWide {
		t.Error("MaxWide is", MaxWide)
	}
}

func TestExamples(t *testing.T) {
	if b, e := Put(nil, 258, 2); !slices.Equal(b, []byte{2, 1}) || e != api.OK {
		t.Error("Put", b, e)
	}
	if n, e := Get([]byte{2, 1}, 0, 2); n != 258 || e != api.OK {
		t.Error("Get", n, e)
	}
	if b, e := PutText(nil, "ab"); !slices.Equal(b, []byte{2, 0, 0, 0, 97, 98}) || e != api.OK {
		t.Error("PutText", b, e)
	}
}

func TestPut(t *testing.T) {
	for _, x := range []struct {
		b        []byte
		n, width int
		want     []byte
	}{
		{nil, 0, 1, []byte{0}},
		{[]byte{}, 0, 1, []byte{0}},
		{nil, 0, 7, []byte{0, 0, 0, 0, 0, 0, 0}},
		{nil, 1, 7, []byte{1, 0, 0, 0, 0, 0, 0}},
		{nil, 255, 1, []byte{255}},
		{nil, 256, 2, []byte{0, 1}},
		{nil, 0x010203, 3, []byte{3, 2, 1}},
		{nil, 0x010203, 4, []byte{3, 2, 1, 0}},
		{nil, 0x01020304050607, 7, []byte{7, 6, 5, 4, 3, 2, 1}},
		{nil, 72057594037927935, 7, []byte{255, 255, 255, 255, 255, 255, 255}},
		{[]byte{9}, 258, 2, []byte{9, 2, 1}},
		{[]byte{9, 8, 7}, 5, 3, []byte{9, 8, 7, 5, 0, 0}},
	} {
		if got, e := Put(x.b, x.n, x.width); !slices.Equal(got, x.want) || e != api.OK {
			t.Errorf("Put(%v, %d, %d) is %v, %d, want %v", x.b, x.n, x.width, got, e, x.want)
		}
	}
}

func TestPutOfEdges(t *testing.T) {
	for _, n := range edges() {
		for width := 1; width <= maxWide; width++ {
			want, code := append([]byte{4, 2}, little(n, width)...), api.OK
			if n < 0 || n > tops[width-1] {
				want, code = nil, api.ErrRange
			}
			if got, e := Put([]byte{4, 2}, n, width); !slices.Equal(got, want) || e != code {
				t.Errorf("Put(4 2, %d, %d) is %v, %d, want %v, %d", n, width, got, e, want, code)
			}
		}
	}
}

func TestPutOfWrongWidths(t *testing.T) {
	for _, width := range wrongWidths {
		for _, n := range edges() { // the width is named first, so it prevails
			if got, e := Put([]byte{1, 2}, n, width); len(got) != 0 || e != api.ErrArg {
				t.Errorf("Put(1 2, %d, %d) is %v, %d", n, width, got, e)
			}
		}
	}
}

func TestPutMakesNewMemory(t *testing.T) {
	b, all := roomy(3)
	first, _ := Put(b, 1, 2)
	second, _ := Put(b, 2, 2)
	if !slices.Equal(first, []byte{77, 77, 77, 1, 0}) || !slices.Equal(second, []byte{77, 77, 77, 2, 0}) {
		t.Error("two puts behind the same bytes", first, second)
	}
	first[0], first[4] = 9, 9
	if !slices.Equal(all, bytes.Repeat([]byte{77}, 64)) || second[0] != 77 || second[4] != 0 {
		t.Error("memory is shared", all, second)
	}
	b[1] = 5
	if first[1] != 77 || second[1] != 77 {
		t.Error("memory of the argument is kept", first, second)
	}
}

func TestGet(t *testing.T) {
	b := []byte{1, 2, 3, 4, 5, 6, 7, 8, 255}
	for _, x := range []struct{ at, width, want int }{
		{0, 1, 1},
		{0, 2, 0x0201},
		{0, 3, 0x030201},
		{0, 4, 0x04030201},
		{0, 5, 0x0504030201},
		{0, 6, 0x060504030201},
		{0, 7, 0x07060504030201},
		{1, 7, 0x08070605040302},
		{2, 7, 0xff080706050403},
		{3, 1, 4},
		{7, 2, 0xff08},
		{8, 1, 255},
	} {
		if got, e := Get(b, x.at, x.width); got != x.want || e != api.OK {
			t.Errorf("Get(.., %d, %d) is %d, %d, want %d", x.at, x.width, got, e, x.want)
		}
	}
}

func TestGetOfGreatest(t *testing.T) {
	for width := 1; width <= maxWide; width++ {
		b := bytes.Repeat([]byte{255}, 9)
		if got, e := Get(b, 1, width); got != tops[width-1] || e != api.OK {
			t.Errorf("Get of %d bytes 255 is %d, %d", width, got, e)
		}
	}
}

func TestGetOfEachPlace(t *testing.T) {
	offsets := []int{math.MinInt, math.MinInt + 7, -8, -7, -2, -1, 1 << 62, math.MaxInt - 7, math.MaxInt - 1, math.MaxInt}
	for at := range 14 {
		offsets = append(offsets, at)
	}
	for length := range 12 {
		b := make([]byte, length, 64)
		for i := range b {
			b[i] = byte(200 + i)
		}
		for _, at := range offsets {
			for width := 1; width <= maxWide; width++ {
				want, code := 0, api.ErrShort
				if at >= 0 && at <= length && length-at >= width {
					var whole [8]byte
					copy(whole[:], b[at:at+width])
					want, code = int(binary.LittleEndian.Uint64(whole[:])), api.OK
				}
				if got, e := Get(b, at, width); got != want || e != code {
					t.Errorf("Get of %d bytes at %d, %d wide, is %d, %d, want %d, %d", length, at, width, got, e, want, code)
				}
			}
		}
	}
}

func TestGetOfWrongWidths(t *testing.T) {
	for _, width := range wrongWidths {
		for _, b := range [][]byte{nil, {}, {1}, make([]byte, 20)} {
			for _, at := range []int{math.MinInt, -1, 0, 1, 20, math.MaxInt} { // the width is named first
				if got, e := Get(b, at, width); got != 0 || e != api.ErrArg {
					t.Errorf("Get(%v, %d, %d) is %d, %d", b, at, width, got, e)
				}
			}
		}
	}
}

func TestGetChangesNothing(t *testing.T) {
	b, all := roomy(5)
	Get(b, 0, 5)
	Get(b, 2, 7)
	if !slices.Equal(all, bytes.Repeat([]byte{77}, 64)) {
		t.Error("Get changed its argument", all)
	}
}

func TestPutText(t *testing.T) {
	for _, x := range []struct {
		b    []byte
		s    string
		want string
	}{
		{nil, "", "\x00\x00\x00\x00"},
		{[]byte{}, "", "\x00\x00\x00\x00"},
		{[]byte{9, 8}, "", "\x09\x08\x00\x00\x00\x00"},
		{[]byte{9, 8}, "a", "\x09\x08\x01\x00\x00\x00a"},
		{nil, "\x00\xff\n", "\x03\x00\x00\x00\x00\xff\n"},
		{nil, "\u00e9", "\x02\x00\x00\x00\xc3\xa9"},
		{nil, strings.Repeat("x", 255), "\xff\x00\x00\x00" + strings.Repeat("x", 255)},
		{nil, strings.Repeat("x", 256), "\x00\x01\x00\x00" + strings.Repeat("x", 256)},
		{[]byte{1}, strings.Repeat("y", 65535), "\x01\xff\xff\x00\x00" + strings.Repeat("y", 65535)},
		{[]byte{1}, strings.Repeat("y", 65536), "\x01\x00\x00\x01\x00" + strings.Repeat("y", 65536)},
	} {
		if got, e := PutText(x.b, x.s); string(got) != x.want || e != api.OK {
			t.Errorf("PutText of %d bytes behind %v begins with %v, %d", len(x.s), x.b, got[:min(8, len(got))], e)
		}
	}
}

func TestPutTextOfLongTexts(t *testing.T) {
	for _, length := range []int{maxMessage + 1, maxMessage + 2, 2 * maxMessage, 1 << 20} {
		if got, e := PutText([]byte{1, 2}, strings.Repeat("a", length)); len(got) != 0 || e != api.ErrLong {
			t.Errorf("PutText of %d bytes is of %d bytes, %d", length, len(got), e)
		}
	}
}

func TestPutTextMakesNewMemory(t *testing.T) {
	b, all := roomy(2)
	first, _ := PutText(b, "ab")
	second, _ := PutText(b, "cd")
	empty, _ := PutText(b, "")
	first[0], first[7] = 9, 9
	if !slices.Equal(all, bytes.Repeat([]byte{77}, 64)) {
		t.Error("PutText changed its argument", all)
	}
	b[1] = 5
	if string(second) != "MM\x02\x00\x00\x00cd" || string(empty) != "MM\x00\x00\x00\x00" || first[1] != 77 {
		t.Errorf("memory is shared: %q, %q", second, empty)
	}
}

// P3.2

func TestNum(t *testing.T) {
	r := New([]byte{1, 2, 3, 4, 5, 6, 7, 8, 9, 10, 11, 12, 13, 14, 15, 16, 17, 18, 19, 20, 21, 22, 23, 24, 25, 26, 27, 28})
	left := 28
	for _, x := range []struct{ width, want int }{
		{1, 1},
		{2, 0x0302},
		{3, 0x060504},
		{4, 0x0a090807},
		{5, 0x0f0e0d0c0b},
		{6, 0x151413121110},
		{7, 0x1c1b1a19181716},
	} {
		if n, e := r.Num(x.width); n != x.want || e != api.OK {
			t.Errorf("Num(%d) is %#x, %d, want %#x", x.width, n, e, x.want)
		}
		left -= x.width
		if r.Left() != left {
			t.Errorf("after Num(%d) there are %d left, want %d", x.width, r.Left(), left)
		}
	}
}

func TestNumOfShortBytes(t *testing.T) {
	for length := range maxWide {
		for width := length + 1; width <= maxWide; width++ {
			b := bytes.Repeat([]byte{255}, length)
			r := New(b)
			if n, e := r.Num(width); n != 0 || e != api.ErrShort || r.Left() != length {
				t.Errorf("Num(%d) of %d bytes is %d, %d, and %d are left", width, length, n, e, r.Left())
			}
			if n, e := r.Num(length); length > 0 && (n != tops[length-1] || e != api.OK || r.Left() != 0) {
				t.Errorf("Num(%d) after an error is %d, %d", length, n, e)
			}
		}
	}
}

func TestNumOfWrongWidths(t *testing.T) {
	for _, width := range wrongWidths {
		for _, b := range [][]byte{nil, {}, {5}, bytes.Repeat([]byte{5}, 20)} {
			r := New(b)
			if n, e := r.Num(width); n != 0 || e != api.ErrArg || r.Left() != len(b) {
				t.Errorf("Num(%d) of %d bytes is %d, %d, and %d are left", width, len(b), n, e, r.Left())
			}
			if n, e := r.Num(1); len(b) > 0 && (n != 5 || e != api.OK) {
				t.Errorf("Num(1) after Num(%d) is %d, %d", width, n, e)
			}
		}
	}
}

func TestText(t *testing.T) {
	for _, x := range []struct {
		b    string
		want string
		left int
	}{
		{"\x00\x00\x00\x00", "", 0},
		{"\x00\x00\x00\x00ab", "", 2},
		{"\x01\x00\x00\x00ab", "a", 1},
		{"\x02\x00\x00\x00ab", "ab", 0},
		{"\x03\x00\x00\x00\x00\xff\nzz", "\x00\xff\n", 2},
		{"\x00\x01\x00\x00" + strings.Repeat("x", 257), strings.Repeat("x", 256), 1},
		{"\xff\xff\x00\x00" + strings.Repeat("x", 65536), strings.Repeat("x", 65535), 1},
		{"\x00\x00\x01\x00" + strings.Repeat("x", 65536), strings.Repeat("x", 65536), 0},
		{"\x00\x00\x01\x00" + strings.Repeat("x", 65540), strings.Repeat("x", 65536), 4},
	} {
		r := New([]byte(x.b))
		if s, e := r.Text(); s != x.want || e != api.OK || r.Left() != x.left {
			t.Errorf("Text of %d bytes is of %d bytes, %d, and %d are left", len(x.b), len(s), e, r.Left())
		}
	}
}

func TestTextOfWrongBytes(t *testing.T) {
	for _, x := range []struct {
		b string
		e api.Errno
	}{
		{"", api.ErrShort},
		{"\x00", api.ErrShort},
		{"\x00\x00\x00", api.ErrShort},
		{"\xff\xff\xff", api.ErrShort},
		{"\x01\x00\x00\x00", api.ErrShort},
		{"\x03\x00\x00\x00ab", api.ErrShort},
		{"\x04\x00\x00\x00abc", api.ErrShort},
		{"\x05\x00\x00\x00a", api.ErrShort},
		{"\x00\x00\x01\x00", api.ErrShort},
		{"\x00\x00\x01\x00" + strings.Repeat("x", 65535), api.ErrShort},
		{"\x01\x00\x01\x00", api.ErrLong},
		{"\x01\x00\x01\x00" + strings.Repeat("x", 65536), api.ErrLong},
		{"\x01\x00\x01\x00" + strings.Repeat("x", 65537), api.ErrLong},
		{"\x00\x00\x00\x01", api.ErrLong},
		{"\x00\x00\x00\x80", api.ErrLong},
		{"\xff\xff\xff\x7f", api.ErrLong},
		{"\xff\xff\xff\xff", api.ErrLong},
		{"\xff\xff\xff\xff" + strings.Repeat("x", 70000), api.ErrLong},
	} {
		r := New([]byte(x.b))
		for range 2 { // the second call meets the same bytes, as nothing was consumed
			if s, e := r.Text(); s != "" || e != x.e || r.Left() != len(x.b) {
				t.Errorf("Text of %q.. is of %d bytes, %d, want %d; %d are left", x.b[:min(8, len(x.b))], len(s), e, x.e, r.Left())
			}
		}
		if n, e := r.Num(1); x.b != "" && (n != int(x.b[0]) || e != api.OK) {
			t.Errorf("Num(1) after Text is %d, %d", n, e)
		}
	}
}

func TestFlagOfEachByte(t *testing.T) {
	for c := range 256 {
		r := New([]byte{byte(c), 7})
		want, code, left := c == 1, api.OK, 1
		if c > 1 {
			want, code, left = false, api.ErrForm, 2
		}
		if f, e := r.Flag(); f != want || e != code || r.Left() != left {
			t.Errorf("Flag of %d is %v, %d, and %d are left", c, f, e, r.Left())
		}
		if n, e := r.Num(left); n != 7 && n != 7*256+c || e != api.OK {
			t.Errorf("Num(%d) after Flag of %d is %d, %d", left, c, n, e)
		}
	}
}

func TestFlagBehindTheEnd(t *testing.T) {
	r := New([]byte{1})
	r.Flag()
	for _, r := range []*Reader{New(nil), New([]byte{}), r} {
		if f, e := r.Flag(); f || e != api.ErrShort || r.Left() != 0 {
			t.Errorf("Flag is %v, %d", f, e)
		}
	}
}

func TestLeft(t *testing.T) {
	for length := range 20 {
		b := make([]byte, length, 64)
		r := New(b)
		for left := length; left > 0; left-- {
			if r.Left() != left {
				t.Errorf("%d are left, want %d", r.Left(), left)
			}
			r.Num(1)
		}
		if n, e := r.Num(1); n != 0 || e != api.ErrShort || r.Left() != 0 {
			t.Errorf("behind %d bytes: %d, %d, and %d are left", length, n, e, r.Left())
		}
	}
}

func TestNilReader(t *testing.T) {
	var r *Reader
	for _, width := range append(wrongWidths, 1, 4, 7) { // that it is nil is named first
		if n, e := r.Num(width); n != 0 || e != api.ErrNil {
			t.Errorf("Num(%d) is %d, %d", width, n, e)
		}
	}
	if s, e := r.Text(); s != "" || e != api.ErrNil {
		t.Errorf("Text is %q, %d", s, e)
	}
	if f, e := r.Flag(); f || e != api.ErrNil {
		t.Errorf("Flag is %v, %d", f, e)
	}
	if n := r.Left(); n != 0 {
		t.Errorf("Left is %d", n)
	}
}

func TestNewIsOfNoBytes(t *testing.T) {
	for _, r := range []*Reader{New(nil), New([]byte{}), new(Reader)} {
		if r == nil {
			t.Fatal("no Reader")
		}
		n, e1 := r.Num(1)
		s, e2 := r.Text()
		f, e3 := r.Flag()
		if n != 0 || s != "" || f || e1 != api.ErrShort || e2 != api.ErrShort || e3 != api.ErrShort || r.Left() != 0 {
			t.Errorf("a Reader of nothing: %d %d, %q %d, %v %d", n, e1, s, e2, f, e3)
		}
	}
}

func TestReaderKeepsNoArgument(t *testing.T) {
	b := []byte("\x07\x02\x00\x00\x00ab\x01")
	was := slices.Clone(b)
	r := New(b)
	clear(b)
	n, _ := r.Num(1)
	s, _ := r.Text()
	f, e := r.Flag()
	if n != 7 || s != "ab" || !f || e != api.OK {
		t.Errorf("after the bytes changed: %d, %q, %v, %d", n, s, f, e)
	}
	copy(b, was)
	r = New(b)
	r.Num(1)
	r.Text()
	r.Flag()
	if !slices.Equal(b, was) {
		t.Error("reading changed the argument", b)
	}
}

func TestReadersAreIndependent(t *testing.T) {
	b := []byte{1, 2, 3}
	one, two := New(b), New(b)
	one.Num(2)
	if n, e := two.Num(1); n != 1 || e != api.OK || one.Left() != 1 || two.Left() != 2 {
		t.Errorf("two Readers: %d, %d, and %d and %d are left", n, e, one.Left(), two.Left())
	}
}

// P3.3

func TestIntegersComeBack(t *testing.T) {
	for _, n := range edges() {
		for width := 1; width <= maxWide; width++ {
			b, e := Put([]byte{8, 8}, n, width)
			if e != api.OK {
				continue
			}
			if got, e := Get(b, 2, width); got != n || e != api.OK {
				t.Errorf("Get of Put(%d, %d) is %d, %d", n, width, got, e)
			}
			if got, e := New(b[2:]).Num(width); got != n || e != api.OK {
				t.Errorf("Num of Put(%d, %d) is %d, %d", n, width, got, e)
			}
		}
	}
}

func TestIntegersOfTwoBytesComeBack(t *testing.T) {
	for n := range 1 << 16 {
		b, e := Put(nil, n, 2)
		if got, f := Get(b, 0, 2); len(b) != 2 || e != api.OK || got != n || f != api.OK {
			t.Fatalf("Get of Put(%d, 2) is %d, %d, %d", n, got, e, f)
		}
	}
}

func TestBytesComeBack(t *testing.T) {
	for c := range 1 << 16 {
		b := []byte{byte(c), byte(c >> 8)}
		n, _ := Get(b, 0, 2)
		if got, e := Put(nil, n, 2); !slices.Equal(got, b) || e != api.OK {
			t.Fatalf("Put of Get of %v is %v, %d", b, got, e)
		}
	}
}

// A part is one thing that is put: an integer, a text (width 0), or a flag (a
// width below 0).
type part struct {
	width int
	n     int
	s     string
}

// put puts a part.
func (p part) put(b []byte) ([]byte, api.Errno) {
	switch {
	case p.width == 0:
		return PutText(b, p.s)
	case p.width < 0:
		return Put(b, p.n, 1)
	}
	return Put(b, p.n, p.width)
}

// read reads a part of the same kind.
func (p part) read(r *Reader) (part, api.Errno) {
	got, e := part{width: p.width}, api.OK
	switch {
	case p.width == 0:
		got.s, e = r.Text()
	case p.width < 0:
		f, code := r.Flag()
		if e = code; f {
			got.n = 1
		}
	default:
		got.n, e = r.Num(p.width)
	}
	return got, e
}

// parts answers many parts in a mixed order.
func parts() []part {
	var l []part
	for i, n := range edges() {
		for width := 1; width <= maxWide; width++ {
			if n >= 0 && n <= tops[width-1] {
				l = append(l, part{width: width, n: n})
			}
		}
		l = append(l, part{s: strings.Repeat("\x01\x00\xffz", i)}, part{width: -1, n: i % 2})
	}
	return append(l, part{s: strings.Repeat("t", maxMessage)}, part{s: ""}, part{width: -1, n: 1})
}

func TestPartsComeBackInOrder(t *testing.T) {
	var b []byte
	for _, p := range parts() {
		var e api.Errno
		if b, e = p.put(b); e != api.OK {
			t.Fatal("put", p.width, p.n, e)
		}
	}
	r := New(b)
	left := len(b)
	for i, p := range parts() {
		got, e := p.read(r)
		if got != p || e != api.OK {
			t.Fatalf("part %d, %d wide, comes back otherwise: %d, %d", i, p.width, got.n, e)
		}
		one, _ := p.put(nil)
		if left -= len(one); r.Left() != left {
			t.Fatalf("after part %d there are %d left, want %d", i, r.Left(), left)
		}
	}
	if left != 0 {
		t.Error("left over", left)
	}
}

func TestPartsThatAreCutOff(t *testing.T) {
	for _, p := range []part{{width: 1, n: 1}, {width: 3, n: 0x010101}, {width: 7, n: 1}, {s: ""}, {s: "abcdef"}, {width: -1, n: 1}} {
		b, _ := p.put(nil)
		for length := range b {
			r := New(b[:length])
			if got, e := p.read(r); got != (part{width: p.width}) || e != api.ErrShort || r.Left() != length {
				t.Errorf("%v cut off after %d bytes is %v, %d, and %d are left", p, length, got, e, r.Left())
			}
		}
	}
}
