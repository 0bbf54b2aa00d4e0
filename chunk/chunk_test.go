package chunk

import (
	"math"
	"math/rand"
	"regexp"
	"slices"
	"strconv"
	"strings"
	"testing"

	"depot/api"
)

// The numbers and bytes that the document names, written out, so that a test
// does not lean on what the package uses.
const (
	docErrArg   = 2
	docErrLong  = 4
	docErrChunk = 25
	maxMessage  = 65536
	maxText     = 8192
	maxFields   = 64
	nl          = "\r\n"
	last        = "0\r\n\r\n"
)

// What a line of a size, and a trailer line, are, by the words of the document
// alone.
var (
	sizeForm  = regexp.MustCompile(`(?s)^([0-9A-Fa-f]{1,15})[ \t]*(;.*)?$`)
	fieldForm = regexp.MustCompile(`(?s)^[0-9A-Za-z!#$%&'*+.^_` + "`" + `|~-]+:[ \t]*(.*?)[ \t]*$`)
)

// decoded is what Decode answers.
type decoded struct {
	body string
	n    int
	code api.Errno
}

func decode(s string) decoded {
	body, n, code := Decode(s)
	return decoded{body, n, code}
}

// one answers the text of a single byte.
func one(c int) string {
	return string([]byte{byte(c)})
}

// isText tells whether a text may follow a ; or be a value.
func isText(s string) bool {
	for i := range len(s) {
		if c := s[i]; c != 9 && c < 32 || c == 127 {
			return false
		}
	}
	return true
}

// isField tells whether a line is a field.
func isField(line string) bool {
	m := fieldForm.FindStringSubmatch(line)
	return len(line) <= maxText && m != nil && isText(m[1])
}

// lineAt answers the line that begins at a place, and the place behind its
// end; the place is negative if the line does not end.
func lineAt(s string, at int) (string, int) {
	n := strings.Index(s[at:], nl)
	if n < 0 {
		return "", -1
	}
	return s[at : at+n], at + n + 2
}

// toldTrailer answers the place behind the trailer that begins at a place, by
// the words of the document.
func toldTrailer(s string, at int) (int, api.Errno) {
	for count := 0; ; {
		line, next := lineAt(s, at)
		if next < 0 {
			return 0, docErrChunk
		}
		at = next
		if line == "" {
			return at, 0
		}
		if !isField(line) {
			return 0, docErrChunk
		}
		if count++; count > maxFields {
			return 0, docErrLong
		}
	}
}

// told answers what Decode is to answer, by those words.
func told(s string) decoded {
	body, at := "", 0
	for {
		line, next := lineAt(s, at)
		m := sizeForm.FindStringSubmatch(line)
		if next < 0 || m == nil || !isText(m[2]) {
			return decoded{code: docErrChunk}
		}
		size, _ := strconv.ParseUint(m[1], 16, 64)
		if size+uint64(len(body)) > maxMessage {
			return decoded{code: docErrLong}
		}
		if at = next; size == 0 {
			break
		}
		behind := at + int(size)
		if behind+2 > len(s) || s[behind:behind+2] != nl {
			return decoded{code: docErrChunk}
		}
		body += s[at:behind]
		at = behind + 2
	}
	n, code := toldTrailer(s, at)
	if code != 0 {
		return decoded{code: code}
	}
	return decoded{body, n, 0}
}

// toldEncode answers the chunks of a body, by the words of the document.
func toldEncode(s string, size int) string {
	var b []byte
	for at := 0; at < len(s); at += size {
		part := s[at:min(at+size, len(s))]
		b = append(b, strconv.FormatInt(int64(len(part)), 16)+nl+part+nl...)
	}
	return string(b) + last
}

// words answers all texts of at most most of the parts.
func words(most int, parts ...string) []string {
	all := []string{""}
	last := all
	for range most {
		var next []string
		for _, w := range last {
			for _, p := range parts {
				next = append(next, w+p)
			}
		}
		all = append(all, next...)
		last = next
	}
	return all
}

// near answers the texts that are a byte away from one: each byte changed,
// left out, or with a byte put ahead of it, its beginnings and its ends.
func near(s string) []string {
	var all []string
	for i := range len(s) + 1 {
		for c := range 256 {
			all = append(all, s[:i]+one(c)+s[i:])
			if i < len(s) {
				all = append(all, s[:i]+one(c)+s[i+1:])
			}
		}
		all = append(all, s[:i], s[i:])
		if i < len(s) {
			all = append(all, s[:i]+s[i+1:])
		}
	}
	return all
}

// allBytes answers a text of every byte.
func allBytes() string {
	var b []byte
	for c := range 256 {
		b = append(b, byte(c))
	}
	return string(b)
}

// filled answers a chunk of a size that is written as it is given.
func filled(digits string) string {
	n, _ := strconv.ParseInt(digits, 16, 64)
	return digits + nl + strings.Repeat("f", int(n)) + nl
}

func checkDecode(t *testing.T, s string, want decoded) {
	t.Helper()
	if got := decode(s); got != want {
		t.Errorf("Decode(%.60q) of %d bytes is %.60q, %d, %d, want %.60q, %d, %d", s, len(s), got.body, got.n, got.code, want.body, want.n, want.code)
	}
}

// checkAll holds texts against the words of the document, and asks that at
// least so many of them are good.
func checkAll(t *testing.T, all []string, least int) {
	t.Helper()
	good := 0
	for _, s := range all {
		want := told(s)
		if checkDecode(t, s, want); t.Failed() {
			return
		}
		if want.code == 0 {
			good++
		}
	}
	if good < least {
		t.Errorf("only %d of %d texts were good", good, len(all))
	}
}

// P11.1: bodies that have the form

func TestDecode(t *testing.T) {
	for _, x := range []struct{ s, body string }{
		{"3\r\nabc\r\n0\r\n\r\n", "abc"},
		{"0\r\n\r\n", ""},
		{"1\r\na\r\n2\r\nbc\r\n3\r\ndef\r\n0\r\n\r\n", "abcdef"},
		{"a\r\n0123456789\r\n0\r\n\r\n", "0123456789"},
		{"A\r\n0123456789\r\n0\r\n\r\n", "0123456789"},
		{"1F\r\n" + strings.Repeat("x", 31) + "\r\n0\r\n\r\n", strings.Repeat("x", 31)},
		{"1f\r\n" + strings.Repeat("x", 31) + "\r\n0\r\n\r\n", strings.Repeat("x", 31)},
		{"10\r\n" + strings.Repeat("x", 16) + "\r\n0\r\n\r\n", strings.Repeat("x", 16)},
		// Noughts ahead, and as many digits as there may be.
		{"01\r\na\r\n00\r\n\r\n", "a"},
		{"000000000000001\r\na\r\n000000000000000\r\n\r\n", "a"},
		{"000000000010000\r\n" + strings.Repeat("x", 65536) + "\r\n0\r\n\r\n", strings.Repeat("x", 65536)},
		// Blanks, and what follows a ;.
		{"1 \r\na\r\n0 \r\n\r\n", "a"},
		{"1\t\r\na\r\n0\t\r\n\r\n", "a"},
		{"1 \t\t  \r\na\r\n0\t \r\n\r\n", "a"},
		{"1;\r\na\r\n0;\r\n\r\n", "a"},
		{"1 ;\r\na\r\n0\t;\r\n\r\n", "a"},
		{"1;x=y\r\na\r\n0;x\r\n\r\n", "a"},
		{"1 ; x = \"y;z\" ;;\t\r\na\r\n0 \t; 5\r\n\r\n", "a"},
		{"1;\x80\xff \u00e4\r\na\r\n0;\r\n\r\n", "a"},
		{"1;5\r\na\r\n0;1\r\n\r\n", "a"},
		// Line ends, and what looks like chunks, among the bytes.
		{"2\r\n\r\n\r\n0\r\n\r\n", "\r\n"},
		{"1\r\n\r\r\n1\r\n\n\r\n0\r\n\r\n", "\r\n"},
		{"5\r\n0\r\n\r\n\r\n0\r\n\r\n", "0\r\n\r\n"},
		{"3\r\n\x00\xff\x80\r\n0\r\n\r\n", "\x00\xff\x80"},
		{"100\r\n" + allBytes() + "\r\n0\r\n\r\n", allBytes()},
		// Trailers.
		{"1\r\na\r\n0\r\nT: 1\r\n\r\n", "a"},
		{"0\r\nT:1\r\n\r\n", ""},
		{"0\r\nT:\r\nT:  \r\nt: \x80\r\nContent-Length: 7\r\nx: a:b\t\r\n\r\n", ""},
		{"1\r\na\r\n0;x\r\n0: 0\r\n1: 1\r\n\r\n", "a"},
	} {
		for _, tail := range []string{"", "x", "\r", "\n", "\r\n", "\r\n\r\n", "0\r\n\r\n", "T: 1\r\n\r\n", "1\r\nb\r\n0\r\n\r\n", "\x00", strings.Repeat("t", 1<<17)} {
			checkDecode(t, x.s+tail, decoded{x.body, len(x.s), 0})
		}
	}
}

// P11.1: ErrChunk

func TestDecodeOfOtherSizes(t *testing.T) {
	for _, line := range []string{
		"", " ", "\t", ";", ";x", " ;x", "x", "g", "G", "1g", "g1", "/", ":", "@", "`", "-1", "+1", "-0", "+0", "0x1", "0X1", "x1", "1h", "1.0", "1e ", "1_0", "1,0", "1 1", "1\t1", "1 x",
		" 1", "\t1", " 0", "  1 ", "1 x;y", "1 1;y", "1\x00", "1\x0b", "1\x0c", "1\u00a0", "1\u2003", "\u0661", "1\"", "\"1\"", "1:", "1=1",
		"0000000000000000", "0000000000000001", "1000000000000000", "ffffffffffffffff", "00000000000000000000000000", "fffffffffffffffff",
		"0000000000000001;x", "0000000000000000 ", "1;\x00", "1;\x01", "1;a\x08b", "1;\x0a", "1;\x0b", "1;\x0d", "1;\x1f", "1;\x7f", "1;x\x7f", "1;\n", "1;\r", "1;a\rb", "1;a\nb", "1\r", "1\n", "\r1", "\n1",
	} {
		for _, behind := range []string{"a\r\n0\r\n\r\n", "\r\n", "\r\n\r\n", "a\r\n\r\n", ""} {
			for _, ahead := range []string{"", "1\r\nz\r\n", "3;x\r\n\r\n\r\r\n"} {
				checkDecode(t, ahead+line+nl+behind, decoded{code: docErrChunk})
			}
		}
	}
}

func TestDecodeOfOthers(t *testing.T) {
	for _, s := range []string{
		// Line ends that are none.
		"0\n\n", "0\r\r", "0\n\r\n", "0\r\n\n", "0\r\n\r", "0\r\r\n\r\n", "0\n\r\n\r\n", "0\r\n\n\r\n", "0\r\n\r\r\n", "0\r \n\r\n", "0\r\n \r\n",
		"1\na\n0\n\n", "1\r\na\n0\r\n\r\n", "1\r\na\r0\r\n\r\n", "1\na\r\n0\r\n\r\n", "1\r\na\n\r0\r\n\r\n", "\r\n0\r\n\r\n", " \r\n0\r\n\r\n",
		// Fewer or more bytes than the size tells.
		"1\r\n\r\n0\r\n\r\n", "1\r\nab\r\n0\r\n\r\n", "3\r\nab\r\n0\r\n\r\n", "2\r\na\r\n0\r\n\r\n", "2\r\nabc\r\n0\r\n\r\n", "2\r\nab0\r\n\r\n", "2\r\nab\r\n\r\n0\r\n\r\n", "2\r\nab \r\n0\r\n\r\n",
		"10000\r\na\r\n0\r\n\r\n", "ffff\r\na\r\n0\r\n\r\n", "1\r\na", "1\r\n", "1\r\na\r", "2\r\na\r\n",
		// A chunk of size 0 has no bytes and no line end, but the trailer's.
		"0\r\na\r\n\r\n", "0\r\n0\r\n\r\n", "0\r\n1\r\na\r\n0\r\n\r\n", "00\r\n0\r\n",
		// Lines of the trailer that are no fields.
		"0\r\nbad\r\n\r\n", "0\r\n: 1\r\n\r\n", "0\r\n a: 1\r\n\r\n", "0\r\na : 1\r\n\r\n", "0\r\na: 1\r\n b\r\n\r\n", "0\r\na: 1\r\nbad\r\n\r\n", "0\r\nbad\r\na: 1\r\n\r\n", "0\r\na: \x00\r\n\r\n", "0\r\na: b\rc\r\n\r\n", "0\r\na: b\nc\r\n\r\n",
		"0\r\na: \x7f\r\n\r\n", "0\r\na(b: 1\r\n\r\n", "0\r\n\x80: 1\r\n\r\n", "0\r\na: 1\r\r\n\r\n", "0\r\na: 1\n\r\n\r\n", "0\r\na\r\n: 1\r\n\r\n",
		// Trailers that do not end.
		"0\r\na: 1\r\n", "0\r\na: 1", "0\r\na: 1\r\n\r", "0\r\na: 1\r\n\n", "0\r\na: 1\nb: 2\r\n\r\n", "0\r\n", "0\r", "0", "", "\r\n", "\r", "\n",
	} {
		checkDecode(t, s, decoded{code: docErrChunk})
	}
}

// A body ends nowhere before its end, and there whatever follows.
func TestDecodeOfBeginnings(t *testing.T) {
	for _, s := range []string{
		"0\r\n\r\n", "3\r\nabc\r\n0\r\n\r\n", "4 ;x=y\r\n\r\n\r\n\r\n00\t;\r\nT: 1\r\nU: a b\r\n\r\n",
		"a\r\n0\r\n\r\n0\r\n\r\n\r\nb\r\n0\r\n0\r\n\r\n0\r\n\r\n0\r\nT: 0\r\n\r\n",
	} {
		want := told(s)
		if want.code != 0 || want.n != len(s) {
			t.Fatalf("%q is no body as a whole", s)
		}
		for i := range len(s) {
			checkDecode(t, s[:i], decoded{code: docErrChunk})
			checkDecode(t, s+s[:i], want)
			checkDecode(t, s+s[i:], want)
		}
	}
}

// Each byte alone, ahead, within and behind, of each part.
func TestDecodeOfEachByte(t *testing.T) {
	var all []string
	for c := range 256 {
		for _, p := range []string{one(c), one(c) + "1", "1" + one(c), "1" + one(c) + "1", "0" + one(c), one(c) + "0", one(c) + one(c)} {
			all = append(all,
				p+"\r\na\r\n0\r\n\r\n", p+"\r\n\r\n", p+" ;x\r\na\r\n0\r\n\r\n", "1;"+p+"\r\na\r\n0\r\n\r\n", "1 "+p+"\r\na\r\n0\r\n\r\n",
				"1"+p+"a\r\n0\r\n\r\n", "1\r\n"+p+"\r\n0\r\n\r\n", "2\r\n"+p+"\r\n0\r\n\r\n", "1\r\na"+p+"0\r\n\r\n", "1\r\na\r\n"+p+"\r\n\r\n",
				"0\r\n"+p+": v\r\n\r\n", "0\r\nn: "+p+"\r\n\r\n", "0\r\nn"+p+" v\r\n\r\n", "0\r\n"+p+"\r\n\r\n", "0\r\n\r\n"+p, "0\r\n\r"+p, "0\r\n"+p)
		}
	}
	checkAll(t, all, 4000)
}

func TestDecodeByTheDocument(t *testing.T) {
	all := slices.Concat(
		words(8, "0", "1", "\r\n", "x"),
		words(6, "0", "2", "\r\n", "a", ";", " "),
		words(7, "0", "\r\n", "a:", "\r", "\n"),
		words(5, "1", "\r\na\r\n", "0\r\n", "t: v\r\n", "\r\n", "10001", "8001\r\n", "bad\r\n"),
		near("3\r\nabc\r\n0\r\n\r\n"), near("2 ;x\r\n\r\n\r\n1\r\nb\r\n00\r\nT: v\r\n\r\n"), near("0\r\n\r\n"), near("000000000000001;\r\na\r\n0\r\na:\r\n\r\n"), near("10000\r\n\r\n"))
	r := rand.New(rand.NewSource(11))
	parts := []string{"0", "1", "2", "3", "f", "A", "g", " ", "\t", ";", "\r\n", "\r\n", "\r\n", "\r", "\n", "a", "bc", "T: v", "\x00", "\x80", "10000"}
	for range 100000 {
		s := ""
		for range r.Intn(12) {
			if r.Intn(20) == 0 {
				s += one(r.Intn(256))
			}
			s += parts[r.Intn(len(parts))]
		}
		all = append(all, s, s+last, "1\r\na\r\n"+s, "0\r\n"+s+"\r\n\r\n")
	}
	checkAll(t, all, 3000)
}

// Chunks of all kinds, put together, with a byte changed in some.
func TestDecodeOfPutTogether(t *testing.T) {
	var all []string
	r := rand.New(rand.NewSource(12))
	for range 20000 {
		s := ""
		for range r.Intn(5) {
			b := make([]byte, 1+r.Intn(40))
			for i := range b {
				b[i] = "\r\n0a;: \xff"[r.Intn(8)]
			}
			size := strconv.FormatInt(int64(len(b)), 16)
			if r.Intn(2) == 0 {
				size = strings.ToUpper(size)
			}
			size = strings.Repeat("0", r.Intn(14)) + size
			s += size + strings.Repeat(" \t", r.Intn(3)) + []string{"", ";", ";a", "; b=c"}[r.Intn(4)] + nl + string(b) + nl
		}
		s += "0" + strings.Repeat("0", r.Intn(15)) + []string{"", " ", "\t;", ";x"}[r.Intn(4)] + nl
		s += strings.Repeat("T: 1\r\n", r.Intn(4)) + nl + []string{"", "x", nl, last}[r.Intn(4)]
		if r.Intn(2) == 0 {
			i := r.Intn(len(s))
			s = s[:i] + one(r.Intn(256)) + s[i+1:]
		}
		all = append(all, s)
	}
	checkAll(t, all, 10000)
}

// P11.1: ErrLong

func TestDecodeOfGreatSizes(t *testing.T) {
	for _, line := range []string{
		"10001", "10001 ", "10001\t ", "10001;", "10001 ;x", "010001", "000000000010001", "11000", "20000", "fffff", "FFFFF", "100000000", "100000001", "7fffffff", "80000000", "ffffffff", "fffffffff",
		"7fffffffffffff", "ffffffffffffff", "100000000000000", "100000000000001", "fffffffffffffff", "FFFFFFFFFFFFFFF", "fffffffffffffff ;x",
	} {
		for _, behind := range []string{"", "a", "\r\n", "0\r\n\r\n", "\r\n0\r\n\r\n", strings.Repeat("a", 65537) + "\r\n0\r\n\r\n"} {
			checkDecode(t, line+nl+behind, decoded{code: docErrLong})
			checkDecode(t, "1\r\na\r\n"+line+nl+behind, decoded{code: docErrLong})
		}
		// The form of a line counts ahead of its size.
		for _, s := range []string{line, line + "\r", line + "\n", line + "\r\r\n", line + ";\x00\r\n", "x" + line + nl, " " + line + nl, "0000000000000000" + line + nl} {
			checkDecode(t, s, decoded{code: docErrChunk})
			checkDecode(t, "1\r\na\r\n"+s, decoded{code: docErrChunk})
		}
	}
}

func TestDecodeOfSizesTogether(t *testing.T) {
	f := func(n int) string { return strings.Repeat("f", n) }
	for _, x := range []struct {
		sizes []string
		n     int
	}{
		{[]string{"10000"}, 65536}, {[]string{"ffff"}, 65535}, {[]string{"ffff", "1"}, 65536}, {[]string{"1", "ffff"}, 65536}, {[]string{"8000", "8000"}, 65536}, {[]string{"7fff", "8001"}, 65536},
		{[]string{"8000", "4000", "2000", "2000"}, 65536}, {[]string{"fffe", "1", "1"}, 65536}, {[]string{"8000", "7ffe", "1"}, 65535},
	} {
		s := ""
		for _, size := range x.sizes {
			s += filled(size)
		}
		checkDecode(t, s+last, decoded{f(x.n), len(s) + 5, 0})
		over := strconv.FormatInt(int64(maxMessage-x.n+1), 16)
		for _, line := range []string{over, over + ";x", over + " ", "10000", "10001", "fffffffffffffff"} {
			for _, behind := range []string{"", "a", "a\r\n0\r\n\r\n", f(65536) + nl + last} {
				checkDecode(t, s+line+nl+behind, decoded{code: docErrLong})
			}
			checkDecode(t, s+line, decoded{code: docErrChunk})
			checkDecode(t, s+line+"\x00"+nl, decoded{code: docErrChunk})
			checkDecode(t, s[:len(s)-2]+line+nl, decoded{code: docErrChunk})
		}
	}
	for _, sizes := range [][]string{{"8001", "8000"}, {"8000", "8001"}, {"10000", "1"}, {"1", "10000"}, {"ffff", "2"}, {"8000", "4000", "4001"}, {"5555", "5555", "5557"}} {
		s := ""
		for _, size := range sizes {
			s += filled(size)
		}
		checkDecode(t, s+last, decoded{code: docErrLong})
	}
	s := strings.Repeat("1\r\na\r\n", 65536)
	checkDecode(t, s+last, decoded{strings.Repeat("a", 65536), len(s) + 5, 0})
	checkDecode(t, s+"1\r\na\r\n"+last, decoded{code: docErrLong})
	checkDecode(t, s+"1\r\n", decoded{code: docErrLong})
	checkDecode(t, s+"1", decoded{code: docErrChunk})
}

func TestDecodeOfManyTrailerLines(t *testing.T) {
	for _, chunks := range []string{"", "1\r\na\r\n"} {
		body := strings.Repeat("a", len(chunks)/6)
		for _, n := range []int{0, 1, 2, 63, 64} {
			s := chunks + "0\r\n" + strings.Repeat("T: v\r\n", n)
			checkDecode(t, s+nl, decoded{body, len(s) + 2, 0})
			checkDecode(t, s+nl+"x: y\r\n", decoded{body, len(s) + 2, 0})
			for _, behind := range []string{"", "T: v", "\r", "bad\r\n\r\n", ": v\r\n\r\n"} {
				checkDecode(t, s+behind, decoded{code: docErrChunk})
			}
		}
		s := chunks + "0\r\n" + strings.Repeat("T: v\r\n", 64)
		for _, behind := range []string{"T: v\r\n", "T: v\r\n\r\n", "T: v\r\nbad\r\n\r\n", "T:\r\nT:\r\n", "u: v\r\nT", strings.Repeat("T: v\r\n", 1000), "T: " + strings.Repeat("v", maxText-3) + nl} {
			checkDecode(t, s+behind, decoded{code: docErrLong})
		}
		// The form of the line that is one too many counts ahead of their number.
		for _, behind := range []string{"T: v", "T: v\r", "T: v\n", "T\r\n", "T: \x00\r\n\r\n", " T: v\r\n\r\n", "\r\r\n\r\n", "T: " + strings.Repeat("v", maxText-2) + nl + nl} {
			checkDecode(t, s+behind, decoded{code: docErrChunk})
		}
		// A line ahead of it that is no field counts ahead of both.
		bad := chunks + "0\r\n" + strings.Repeat("T: v\r\n", 40) + "T\r\n" + strings.Repeat("T: v\r\n", 40) + nl
		checkDecode(t, bad, decoded{code: docErrChunk})
	}
}

// No line of a trailer is longer than a field may be. For what follows a ;, the
// document tells no such length.
func TestDecodeOfLongLines(t *testing.T) {
	for _, n := range []int{maxText - 1, maxText} {
		name, value := strings.Repeat("n", n-1)+":", "n:"+strings.Repeat("v", n-2)
		for _, line := range []string{name, value, "n:" + strings.Repeat(" ", n-2)} {
			s := "1\r\na\r\n0\r\n" + line + nl + nl
			checkDecode(t, s, decoded{"a", len(s), 0})
		}
	}
	for _, n := range []int{maxText + 1, 2 * maxText, maxMessage + 1} {
		name, value := strings.Repeat("n", n-1)+":", "n:"+strings.Repeat("v", n-2)
		for _, line := range []string{name, value, "n:" + strings.Repeat(" ", n-2)} {
			checkDecode(t, "1\r\na\r\n0\r\n"+line+nl+nl, decoded{code: docErrChunk})
		}
	}
	for _, n := range []int{maxText, maxText + 1, maxMessage, maxMessage + 1, 1 << 20} {
		for _, x := range []string{" ", "\t", "0", "x", "\xff", ";"} {
			long := strings.Repeat(x, n)
			s := "1;" + long + "\r\na\r\n0;" + long + "\r\n\r\n"
			checkDecode(t, s, decoded{"a", len(s), 0})
		}
		blanks := strings.Repeat(" \t", n)
		s := "1" + blanks + ";\r\na\r\n0" + blanks + "\r\n\r\n"
		checkDecode(t, s, decoded{"a", len(s), 0})
		checkDecode(t, "1"+blanks+"x\r\na\r\n0\r\n\r\n", decoded{code: docErrChunk})
	}
}

// The first error counts, whichever one it is.
func TestDecodeOfSeveralErrors(t *testing.T) {
	for s, want := range map[string]api.Errno{
		"10001\r\nx\r\n":                               docErrLong,
		"10001\r\n\r\nbad\r\n":                         docErrLong,
		"x\r\n10001\r\n":                               docErrChunk,
		"2\r\na\r\n10001\r\n":                          docErrChunk,
		"1\r\na10001\r\n":                              docErrChunk,
		"1\r\na\r\n\r\n10001\r\n":                      docErrChunk,
		"1\r\na\r\n10001\r\n2\r\na\r\n":                docErrLong,
		"0\r\n10001\r\n":                               docErrChunk,
		"0\r\nbad\r\n" + strings.Repeat("T:\r\n", 99):  docErrChunk,
		strings.Repeat("T:\r\n", 99):                   docErrChunk,
		"1\r\na\r\n" + strings.Repeat("T:\r\n", 99):    docErrChunk,
		"0\r\n" + strings.Repeat("T:\r\n", 65) + "bad": docErrLong,
		"0\r\n" + strings.Repeat("T:\r\n", 64) + "bad": docErrChunk,
	} {
		checkDecode(t, s, decoded{code: want})
	}
}

// P11.2

func checkEncode(t *testing.T, s string, size int, want string, code api.Errno) {
	t.Helper()
	if got, e := Encode(s, size); got != want || e != code {
		t.Errorf("Encode(%.40q, %d) of %d bytes is %.60q, %d, want %.60q, %d", s, size, len(s), got, e, want, code)
	}
}

func TestEncode(t *testing.T) {
	for _, x := range []struct {
		s    string
		size int
		want string
	}{
		{"abcd", 3, "3\r\nabc\r\n1\r\nd\r\n0\r\n\r\n"},
		{"abcd", 4, "4\r\nabcd\r\n0\r\n\r\n"},
		{"abcd", 5, "4\r\nabcd\r\n0\r\n\r\n"},
		{"abcd", 65536, "4\r\nabcd\r\n0\r\n\r\n"},
		{"abcd", 2, "2\r\nab\r\n2\r\ncd\r\n0\r\n\r\n"},
		{"abc", 1, "1\r\na\r\n1\r\nb\r\n1\r\nc\r\n0\r\n\r\n"},
		{"", 1, "0\r\n\r\n"},
		{"", 65536, "0\r\n\r\n"},
		{"0123456789", 10, "a\r\n0123456789\r\n0\r\n\r\n"},
		{strings.Repeat("x", 31), 31, "1f\r\n" + strings.Repeat("x", 31) + "\r\n0\r\n\r\n"},
		{strings.Repeat("x", 33), 16, "10\r\nxxxxxxxxxxxxxxxx\r\n10\r\nxxxxxxxxxxxxxxxx\r\n1\r\nx\r\n0\r\n\r\n"},
		{"\r\n\x00\xff", 3, "3\r\n\r\n\x00\r\n1\r\n\xff\r\n0\r\n\r\n"},
		{"\u00e4\u00e4", 1, "1\r\n\xc3\r\n1\r\n\xa4\r\n1\r\n\xc3\r\n1\r\n\xa4\r\n0\r\n\r\n"},
		{strings.Repeat("x", 65536), 65536, "10000\r\n" + strings.Repeat("x", 65536) + "\r\n0\r\n\r\n"},
		{strings.Repeat("x", 65536), 65535, "ffff\r\n" + strings.Repeat("x", 65535) + "\r\n1\r\nx\r\n0\r\n\r\n"},
		{strings.Repeat("x", 65536), 1, strings.Repeat("1\r\nx\r\n", 65536) + "0\r\n\r\n"},
		{strings.Repeat("x", 65536), 32768, strings.Repeat("8000\r\n"+strings.Repeat("x", 32768)+"\r\n", 2) + "0\r\n\r\n"},
	} {
		checkEncode(t, x.s, x.size, x.want, 0)
	}
}

func TestEncodeOfOthers(t *testing.T) {
	for _, size := range []int{0, -1, -2, -65536, 65537, 65538, 1 << 17, 1 << 32, 1<<32 + 1, 1<<16 + 1<<32, math.MaxInt, math.MinInt, math.MinInt + 1} {
		// The size counts ahead of the body's length.
		for _, s := range []string{"", "a", "abcd", strings.Repeat("x", 65536), strings.Repeat("x", 65537), strings.Repeat("x", 1<<20)} {
			checkEncode(t, s, size, "", docErrArg)
		}
	}
	for _, size := range []int{1, 2, 3, 1000, 65535, 65536} {
		for _, n := range []int{65537, 65538, 1 << 17, 1 << 20, 1 << 24} {
			checkEncode(t, strings.Repeat("x", n), size, "", docErrLong)
		}
		checkEncode(t, strings.Repeat("x", 65536), size, toldEncode(strings.Repeat("x", 65536), size), 0)
	}
}

func TestEncodeByTheDocument(t *testing.T) {
	r := rand.New(rand.NewSource(13))
	for n := range 300 {
		b := make([]byte, n)
		for i := range b {
			b[i] = byte(r.Intn(256))
		}
		for size := 1; size <= n+2; size++ {
			checkEncode(t, string(b), size, toldEncode(string(b), size), 0)
		}
	}
}

// P11.3

// readBack tells whether a body is decoded of its chunks, whatever follows.
func readBack(t *testing.T, s string, size int, tails ...string) {
	t.Helper()
	chunks, e := Encode(s, size)
	if e != 0 {
		t.Fatalf("Encode of %d bytes with %d is %d", len(s), size, e)
	}
	for _, tail := range tails {
		checkDecode(t, chunks+tail, decoded{s, len(chunks), 0})
	}
}

func TestEncodedBodiesAreDecoded(t *testing.T) {
	tails := []string{"", "x", "\r", "\n", "\r\n", "0", "0\r\n", last, "1\r\na\r\n" + last, "T: v\r\n\r\n", "10001\r\n", "bad\r\n", "\x00\xff", strings.Repeat("\r\n", 100), strings.Repeat("T: v\r\n", 65)}
	for _, s := range words(4, "\r\n", "0", "\r", "\n", ";", "a", "\x00", "\xff") {
		for size := 1; size <= len(s)+1; size++ {
			readBack(t, s, size, tails...)
		}
		readBack(t, s, 65535, tails...)
		readBack(t, s, 65536, tails...)
	}
	for size := 1; size <= 300; size++ {
		readBack(t, allBytes(), size, tails...)
	}
}

// All sizes that there may be, and each byte as what follows.
func TestEncodedBodiesAreDecodedForAnySize(t *testing.T) {
	for size := 1; size <= 65536; size++ {
		readBack(t, "abc\r\n0\r\n\r\nd", size, "", last)
	}
	long := strings.Repeat(allBytes(), 256)
	for size := 1; size < 65536; size = size*5/4 + 1 {
		readBack(t, long, size, "", last)
		readBack(t, long[:size], size, "", last)
		readBack(t, long[:size-1], size, "", last)
		readBack(t, long[:size+1], size, "", last)
	}
	readBack(t, long, 65536, "", last)
	for c := range 256 {
		for _, s := range []string{"", "a", one(c), "\r\n" + one(c)} {
			readBack(t, s, 1, one(c), one(c)+one(c), "\r"+one(c), one(c)+last)
		}
	}
}

// R1: great inputs, which end soon.

func TestGreatInputs(t *testing.T) {
	for _, x := range []struct {
		part string
		code api.Errno
	}{
		{"0", docErrChunk}, {"f", docErrChunk}, {" ", docErrChunk}, {";", docErrChunk}, {"\x00", docErrChunk}, {"\r", docErrChunk}, {"\n", docErrChunk}, {"\r\n", docErrChunk},
		{"1\r\na\r\n", docErrLong}, {"1\r\n", docErrLong}, {"2\r\n", docErrChunk}, {"0\r\n", docErrChunk}, {"10001\r\n", docErrLong}, {"1;", docErrChunk}, {"T: v\r\n", docErrChunk},
	} {
		s := strings.Repeat(x.part, 1<<22)
		checkDecode(t, s, decoded{code: x.code})
		checkDecode(t, last+s, decoded{"", 5, 0})
		checkDecode(t, "0;"+s, told("0;"+s))
	}
	checkDecode(t, "0\r\n"+strings.Repeat("T: v\r\n", 1<<20), decoded{code: docErrLong})
}
