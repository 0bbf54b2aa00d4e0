package line

import (
	"math"
	"math/rand"
	"regexp"
	"slices"
	"strconv"
	"strings"
	"testing"

	"depot/api"
)

// The numbers and bytes that the document names, written out, so that a test
// does not lean on what the package uses.
const (
	docErrLong = 4
	docErrLine = 20
	maxText    = 8192
	tokens     = "0123456789abcdefghijklmnopqrstuvwxyzABCDEFGHIJKLMNOPQRSTUVWXYZ!#$%&'*+-.^_`|~"
)

// What start lines are, by the words of the document alone.
var (
	requestForm = regexp.MustCompile("^([0-9A-Za-z!#$%&'*+.^_`|~-]+) ([!-~]+) HTTP/1\\.([01])$")
	statusForm  = regexp.MustCompile(`(?s)^HTTP/1\.([01]) ([1-5][0-9][0-9]) (.*)$`)
)

// asked is what Request answers, and said is what Status does.
type (
	asked struct {
		method, target string
		minor          int
		code           api.Errno
	}
	said struct {
		status int
		reason string
		minor  int
		code   api.Errno
	}
)

func request(s string) asked {
	method, target, minor, code := Request(s)
	return asked{method, target, minor, code}
}

func status(s string) said {
	n, reason, minor, code := Status(s)
	return said{n, reason, minor, code}
}

// one answers the text of a single byte.
func one(c int) string {
	return string([]byte{byte(c)})
}

// isText tells whether a text may be a reason.
func isText(s string) bool {
	for i := range len(s) {
		if c := s[i]; c != 9 && c < 32 || c == 127 {
			return false
		}
	}
	return true
}

// shownText answers all bytes that may stand in a target.
func shownText() string {
	var b []byte
	for c := 33; c <= 126; c++ {
		b = append(b, byte(c))
	}
	return string(b)
}

// number answers the number of digits.
func number(s string) int {
	n, _ := strconv.Atoi(s)
	return n
}

// toldRequest answers what Request is to answer, by those words.
func toldRequest(s string) asked {
	if len(s) > maxText {
		return asked{code: docErrLong}
	}
	m := requestForm.FindStringSubmatch(s)
	if m == nil {
		return asked{code: docErrLine}
	}
	return asked{m[1], m[2], number(m[3]), 0}
}

// toldStatus answers what Status is to answer, by those words.
func toldStatus(s string) said {
	if len(s) > maxText {
		return said{code: docErrLong}
	}
	m := statusForm.FindStringSubmatch(s)
	if m == nil || !isText(m[3]) {
		return said{code: docErrLine}
	}
	return said{number(m[2]), m[3], number(m[1]), 0}
}

// words answers all texts of at most most of the parts.
func words(most int, parts ...string) []string {
	all := []string{""}
	last := all
	for range most {
		var next []string
		for _, w := range last {
			for _, p := range parts {
				next = append(next, w+p)
			}
		}
		all = append(all, next...)
		last = next
	}
	return all
}

// near answers the texts that are a byte away from one: each byte changed,
// left out, doubled, or with a byte put ahead of it, and its beginnings.
func near(s string) []string {
	var all []string
	for i := range len(s) + 1 {
		for c := range 256 {
			all = append(all, s[:i]+one(c)+s[i:])
			if i < len(s) {
				all = append(all, s[:i]+one(c)+s[i+1:])
			}
		}
		all = append(all, s[:i], s[i:])
		if i < len(s) {
			all = append(all, s[:i]+s[i+1:])
		}
	}
	return all
}

func checkRequest(t *testing.T, s string, want asked) {
	t.Helper()
	if got := request(s); got != want {
		t.Errorf("Request(%.60q) is %#.60v, want %#.60v", s, got, want)
	}
}

func checkStatus(t *testing.T, s string, want said) {
	t.Helper()
	if got := status(s); got != want {
		t.Errorf("Status(%.60q) is %#.60v, want %#.60v", s, got, want)
	}
}

// P10.1: Request

func TestRequest(t *testing.T) {
	for _, x := range []struct {
		line, method, target string
		minor                int
	}{
		{"GET /a HTTP/1.1", "GET", "/a", 1},
		{"GET /a HTTP/1.0", "GET", "/a", 0},
		{"get / HTTP/1.1", "get", "/", 1},
		{"OPTIONS * HTTP/1.1", "OPTIONS", "*", 1},
		{"GET http://ex.com:80/a?b=c#d HTTP/1.1", "GET", "http://ex.com:80/a?b=c#d", 1},
		{"CONNECT ex.com:443 HTTP/1.0", "CONNECT", "ex.com:443", 0},
		{"a b HTTP/1.0", "a", "b", 0},
		{"! \" HTTP/1.1", "!", "\"", 1},
		{"HTTP/1.1 HTTP/1.1 HTTP/1.1", "", "", 0},
		{"HTTP1.1 HTTP/1.1 HTTP/1.1", "HTTP1.1", "HTTP/1.1", 1},
		{tokens + " " + shownText() + " HTTP/1.1", tokens, shownText(), 1},
	} {
		want := asked{x.method, x.target, x.minor, 0}
		if x.method == "" {
			want = asked{code: docErrLine}
		}
		checkRequest(t, x.line, want)
	}
}

func TestRequestOfOthers(t *testing.T) {
	for _, s := range []string{
		"", " ", "  ", "   ", "GET", "GET ", "GET /", "GET / ", "GET  HTTP/1.1", " / HTTP/1.1", "/ HTTP/1.1", "GET HTTP/1.1", "HTTP/1.1",
		"GET  / HTTP/1.1", "GET /  HTTP/1.1", " GET / HTTP/1.1", "GET / HTTP/1.1 ", "GET / HTTP/1.1\r", "GET / HTTP/1.1\n", "GET / HTTP/1.1\r\n",
		"\r\nGET / HTTP/1.1", "GET\t/ HTTP/1.1", "GET /\tHTTP/1.1", "GET / /b HTTP/1.1", "GET /a b HTTP/1.1",
		"G@T / HTTP/1.1", "G(T) / HTTP/1.1", "\"GET\" / HTTP/1.1", "GET: / HTTP/1.1", "G/T / HTTP/1.1", "\u00e4 / HTTP/1.1", "\x80 / HTTP/1.1",
		"GET /\x80 HTTP/1.1", "GET /\xff HTTP/1.1", "GET /\u00e4 HTTP/1.1", "GET /\x7f HTTP/1.1", "GET /\x00 HTTP/1.1", "GET /\n HTTP/1.1",
		"GET / HTTP/2.0", "GET / HTTP/2", "GET / HTTP/1.2", "GET / HTTP/1.9", "GET / HTTP/0.9", "GET / HTTP/1", "GET / HTTP/1.", "GET / HTTP/1.10", "GET / HTTP/1.01",
		"GET / HTTP/1.00", "GET / HTTP/01.1", "GET / HTTP/1.-1", "GET / HTTP/1.+1", "GET / HTTP/-1.1", "GET / HTTP/1,1", "GET / HTTP/11",
		"GET / http/1.1", "GET / Http/1.1", "GET / HTTP 1.1", "GET / HTTP/ 1.1", "GET / HTTP/1.1 HTTP/1.1", "GET / HTTPS/1.1", "GET / 1.1", "GET / 1", "GET / 0",
		"HTTP/1.1 200 OK", "HTTP/1.1 / GET",
	} {
		checkRequest(t, s, asked{code: docErrLine})
	}
}

// Each byte alone, ahead, within and behind, of each part.
func TestRequestOfEachByte(t *testing.T) {
	for c := range 256 {
		for _, p := range []string{one(c), one(c) + "x", "x" + one(c), "x" + one(c) + "x"} {
			for _, s := range []string{
				p, p + " / HTTP/1.1", "GET " + p + " HTTP/1.0", "GET / " + p, "GET / HTTP/1." + p, "GET / " + p + "HTTP/1.1",
				p + " " + p + " HTTP/1.1", p + "GET / HTTP/1.1", "GET / HTTP/1.1" + p, "GET" + p + "/ HTTP/1.1", "GET /" + p + "HTTP/1.0",
			} {
				checkRequest(t, s, toldRequest(s))
			}
		}
	}
}

func TestRequestByTheDocument(t *testing.T) {
	all := slices.Concat(
		words(6, "G", "/", " ", "HTTP/1.1"),
		words(6, "@", "a", " ", "HTTP/1.0", "\x80"),
		words(5, " ", "GET", "\t", "HTTP/1.", "0", "1"),
		near("GET /a HTTP/1.1"), near("a b HTTP/1.0"), near("POST http://ex.com/ HTTP/1.1"), near("G  HTTP/1.1"), near("HTTP/1.1 200 OK"))
	r := rand.New(rand.NewSource(10))
	for range 20000 {
		b := make([]byte, r.Intn(12))
		for i := range b {
			if b[i] = byte(r.Intn(256)); r.Intn(4) > 0 {
				b[i] = "aZ !~/\"1"[r.Intn(8)]
			}
		}
		all = append(all, string(b)+" HTTP/1.1", "M "+string(b)+" HTTP/1.0", string(b))
	}
	good := 0
	for _, s := range all {
		want := toldRequest(s)
		if got := request(s); got != want {
			t.Fatalf("Request(%q) is %#.60v, want %#.60v", s, got, want)
		}
		if want.code == 0 {
			good++
		}
	}
	if good < 1000 {
		t.Errorf("only %d lines were good", good)
	}
}

func TestRequestLengths(t *testing.T) {
	end := " HTTP/1.1"
	for _, n := range []int{12, 255, 256, 4096, 8190, 8191, 8192} {
		word := strings.Repeat("w", n-len(end)-2)
		checkRequest(t, word+" /"+end, asked{word, "/", 1, 0})
		checkRequest(t, "G "+word+end, asked{"G", word, 1, 0})
		checkRequest(t, strings.Repeat("w", n), asked{code: docErrLine})
		checkRequest(t, strings.Repeat(" ", n), asked{code: docErrLine})
		checkRequest(t, "G "+word+" HTTP/1.2", asked{code: docErrLine})
	}
	// The length counts ahead of the form.
	for _, n := range []int{8193, 8194, 16384, 1 << 16, 1<<16 + 1, 1 << 20} {
		word := strings.Repeat("w", n-len(end)-2)
		for _, s := range []string{
			word + " /" + end, "G " + word + end, strings.Repeat("w", n), strings.Repeat(" ", n), strings.Repeat("\x00", n),
			"GET /" + end + strings.Repeat(" ", n-14), "G " + word + " HTTP/1.2",
		} {
			checkRequest(t, s, asked{code: docErrLong})
		}
	}
}

// P10.1: PrintRequest

func TestPrintRequest(t *testing.T) {
	for _, x := range []struct {
		method, target string
		minor          int
		want           string
	}{
		{"GET", "/a", 1, "GET /a HTTP/1.1"},
		{"GET", "/a", 0, "GET /a HTTP/1.0"},
		{"get", "*", 1, "get * HTTP/1.1"},
		{"OPTIONS", "http://ex.com/?a b", 1, "OPTIONS http://ex.com/?a b HTTP/1.1"},
		{"", "", 0, "  HTTP/1.0"},
		{"\x00", "\xff\r\n", 1, "\x00 \xff\r\n HTTP/1.1"},
		{"A", "b", 12, "A b HTTP/1.12"},
		{"A", "b", -1, "A b HTTP/1.-1"},
		{"A", "b", math.MaxInt, "A b HTTP/1.9223372036854775807"},
		{"A", "b", math.MinInt, "A b HTTP/1.-9223372036854775808"},
		{strings.Repeat("m", 9000), strings.Repeat("t", 9000), 1, strings.Repeat("m", 9000) + " " + strings.Repeat("t", 9000) + " HTTP/1.1"},
	} {
		if got := PrintRequest(x.method, x.target, x.minor); got != x.want {
			t.Errorf("PrintRequest(%.60q, %.60q, %d) is %.60q, want %.60q", x.method, x.target, x.minor, got, x.want)
		}
	}
}

// P10.2: Status

func TestStatus(t *testing.T) {
	for _, x := range []struct {
		line   string
		status int
		reason string
		minor  int
	}{
		{"HTTP/1.0 404 ", 404, "", 0},
		{"HTTP/1.1 200 OK", 200, "OK", 1},
		{"HTTP/1.1 200 All is  well", 200, "All is  well", 1},
		{"HTTP/1.1 100 Continue", 100, "Continue", 1},
		{"HTTP/1.1 101 a", 101, "a", 1},
		{"HTTP/1.0 599 z", 599, "z", 0},
		{"HTTP/1.0 598 z", 598, "z", 0},
		{"HTTP/1.1 200  OK", 200, " OK", 1},
		{"HTTP/1.1 200 OK ", 200, "OK ", 1},
		{"HTTP/1.1 200  ", 200, " ", 1},
		{"HTTP/1.1 200 \t", 200, "\t", 1},
		{"HTTP/1.1 200 \x80\xff", 200, "\x80\xff", 1},
		{"HTTP/1.1 200 \u00e4", 200, "\u00e4", 1},
		{"HTTP/1.1 200 200", 200, "200", 1},
		{"HTTP/1.1 200 HTTP/1.0 404 ", 200, "HTTP/1.0 404 ", 1},
		{"HTTP/1.0 502 " + shownText(), 502, shownText(), 0},
	} {
		checkStatus(t, x.line, said{x.status, x.reason, x.minor, 0})
	}
}

func TestStatusOfOthers(t *testing.T) {
	for _, s := range []string{
		"", " ", "  ", "HTTP/1.1", "HTTP/1.1 ", "HTTP/1.1  ", "HTTP/1.1   ", "HTTP/1.1 200", "HTTP/1.1 200\t", "HTTP/1.1\t200 OK", "HTTP/1.1 200\tOK",
		"HTTP/1.1  200 OK", " HTTP/1.1 200 OK", "\tHTTP/1.1 200 OK", "\r\nHTTP/1.1 200 OK",
		"HTTP/1.1 20 OK", "HTTP/1.1 2 OK", "HTTP/1.1 2000 OK", "HTTP/1.1 0200 OK", "HTTP/1.1 00200 OK", "HTTP/1.1 -200 OK", "HTTP/1.1 +200 OK", "HTTP/1.1 +20 OK", "HTTP/1.1 -20 OK",
		"HTTP/1.1 600 x", "HTTP/1.1 999 x", "HTTP/1.1 099 x", "HTTP/1.1 000 x", "HTTP/1.1 99 x", "HTTP/1.1 001 x", "HTTP/1.1 0 x", "HTTP/1.1 010 x",
		"HTTP/1.1 2x0 OK", "HTTP/1.1 x20 OK", "HTTP/1.1 20x OK", "HTTP/1.1 0x1 OK", "HTTP/1.1 2.0 OK", "HTTP/1.1 1e2 OK", "HTTP/1.1 2_0 OK", "HTTP/1.1 \u0661\u0661\u0661 OK", "HTTP/1.1 OK 200",
		"HTTP/1.1 9999999999999999999999 OK", "HTTP/1.1 18446744073709551816 OK",
		"HTTP/1.1 200 \x01", "HTTP/1.1 200 \x00", "HTTP/1.1 200 OK\r", "HTTP/1.1 200 OK\n", "HTTP/1.1 200 OK\r\n", "HTTP/1.1 200 O\nK", "HTTP/1.1 200 \x7f", "HTTP/1.1 200 \x1f", "HTTP/1.1 200 a\x0b", "HTTP/1.1 200 a\x08b",
		"HTTP/1.2 200 OK", "HTTP/2.0 200 OK", "HTTP/2 200 OK", "HTTP/0.9 200 OK", "HTTP/1 200 OK", "HTTP/1. 200 OK", "HTTP/1.11 200 OK", "HTTP/1.01 200 OK", "HTTP/1.1. 200 OK", "http/1.1 200 OK", "Http/1.0 200 OK",
		"HTTP 1.1 200 OK", "HTTP/ 1.1 200 OK", "HTTP/1,1 200 OK", "ICY 200 OK", "200 OK", "200 HTTP/1.1 OK", "GET /a HTTP/1.1", "GET 200 HTTP/1.1",
	} {
		checkStatus(t, s, said{code: docErrLine})
	}
}

// All texts of up to four digits, and some beside them, as the code.
func TestStatusOfEachCode(t *testing.T) {
	for _, digits := range words(4, "0", "1", "2", "3", "4", "5", "6", "7", "8", "9") {
		for _, s := range []string{"HTTP/1.1 " + digits + " x", "HTTP/1.0 " + digits + " ", "HTTP/1.0 " + digits} {
			checkStatus(t, s, toldStatus(s))
		}
	}
}

// Each byte alone, ahead, within and behind, of each part.
func TestStatusOfEachByte(t *testing.T) {
	for c := range 256 {
		for _, p := range []string{one(c), one(c) + "0", "2" + one(c), "2" + one(c) + "0", "20" + one(c), one(c) + "00"} {
			for _, s := range []string{
				p, p + " 200 OK", "HTTP/1.1 " + p + " OK", "HTTP/1.0 200 " + p, "HTTP/1." + p + " 200 OK", "HTTP/1.1" + p + "200 OK",
				"HTTP/1.1 200" + p + "OK", p + "HTTP/1.1 200 OK", "HTTP/1.1 200 OK" + p, "HTTP/1.1 200 " + p + "K", "HTTP/1.1 200 O" + p + "K",
			} {
				checkStatus(t, s, toldStatus(s))
			}
		}
	}
}

func TestStatusByTheDocument(t *testing.T) {
	all := slices.Concat(
		words(6, "HTTP/1.1", " ", "200", "O"),
		words(6, "HTTP/1.0", " ", "59", "9", "\t", "\x7f"),
		words(5, " ", "HTTP/1.", "0", "1", "20", "\x80"),
		near("HTTP/1.1 200 OK"), near("HTTP/1.0 404 "), near("HTTP/1.1 599 a b"), near("HTTP/1.1 100"), near("GET / HTTP/1.1"))
	r := rand.New(rand.NewSource(11))
	for range 20000 {
		b := make([]byte, r.Intn(12))
		for i := range b {
			if b[i] = byte(r.Intn(256)); r.Intn(4) > 0 {
				b[i] = "aZ 0125\t"[r.Intn(8)]
			}
		}
		all = append(all, "HTTP/1.1 200 "+string(b), "HTTP/1.0 "+string(b)+" x", string(b))
	}
	good := 0
	for _, s := range all {
		want := toldStatus(s)
		if got := status(s); got != want {
			t.Fatalf("Status(%q) is %#.60v, want %#.60v", s, got, want)
		}
		if want.code == 0 {
			good++
		}
	}
	if good < 1000 {
		t.Errorf("only %d lines were good", good)
	}
}

func TestStatusLengths(t *testing.T) {
	first := "HTTP/1.1 200 "
	for _, n := range []int{14, 255, 256, 4096, 8190, 8191, 8192} {
		reason := strings.Repeat("r", n-len(first))
		checkStatus(t, first+reason, said{200, reason, 1, 0})
		blanks := strings.Repeat(" ", n-len(first))
		checkStatus(t, first+blanks, said{200, blanks, 1, 0})
		checkStatus(t, strings.Repeat("r", n), said{code: docErrLine})
		checkStatus(t, strings.Repeat(" ", n), said{code: docErrLine})
		checkStatus(t, "HTTP/1.1 "+strings.Repeat("2", n-9), said{code: docErrLine})
	}
	// The length counts ahead of the form.
	for _, n := range []int{8193, 8194, 16384, 1 << 16, 1<<16 + 1, 1 << 20} {
		for _, s := range []string{
			first + strings.Repeat("r", n-len(first)), first + strings.Repeat(" ", n-len(first)), first + strings.Repeat("\x00", n-len(first)),
			strings.Repeat("r", n), strings.Repeat(" ", n), strings.Repeat("\x00", n), "HTTP/1.1 " + strings.Repeat("2", n-9),
		} {
			checkStatus(t, s, said{code: docErrLong})
		}
	}
}

// P10.2: PrintStatus

func TestPrintStatus(t *testing.T) {
	for _, x := range []struct {
		code   int
		reason string
		minor  int
		want   string
	}{
		{404, "", 0, "HTTP/1.0 404 "},
		{200, "OK", 1, "HTTP/1.1 200 OK"},
		{200, "All is  well", 1, "HTTP/1.1 200 All is  well"},
		{304, " Not\tModified ", 0, "HTTP/1.0 304  Not\tModified "},
		{0, "", 0, "HTTP/1.0 0 "},
		{7, "x", 1, "HTTP/1.1 7 x"},
		{1000, "\xff\r\n", 10, "HTTP/1.10 1000 \xff\r\n"},
		{-200, "x", -1, "HTTP/1.-1 -200 x"},
		{math.MaxInt, "", math.MinInt, "HTTP/1.-9223372036854775808 9223372036854775807 "},
		{200, strings.Repeat("r", 9000), 1, "HTTP/1.1 200 " + strings.Repeat("r", 9000)},
	} {
		if got := PrintStatus(x.code, x.reason, x.minor); got != x.want {
			t.Errorf("PrintStatus(%d, %.60q, %d) is %.60q, want %.60q", x.code, x.reason, x.minor, got, x.want)
		}
	}
}

// P10.3: Safe

func TestSafe(t *testing.T) {
	for _, method := range []string{"GET", "HEAD", "OPTIONS", "TRACE"} {
		if !Safe(method) {
			t.Errorf("Safe(%q) is false", method)
		}
		for _, s := range near(method) {
			if s != method && Safe(s) {
				t.Errorf("Safe(%q) is true", s)
			}
		}
	}
	for _, method := range []string{
		"", "get", "Get", "head", "options", "trace", "Trace", "POST", "PUT", "DELETE", "PATCH", "CONNECT", "PROPFIND", "GET ", " GET", "GETHEAD", "GET HEAD",
		"GET, HEAD", "OPTION", "PURGE", "*", "\x00", strings.Repeat("GET", 1<<20),
	} {
		if Safe(method) {
			t.Errorf("Safe(%.60q) is true", method)
		}
	}
}

// P10.3: Usual

func TestUsual(t *testing.T) {
	told := map[int]string{200: "OK", 304: "Not Modified", 400: "Bad Request", 502: "Bad Gateway", 504: "Gateway Timeout"}
	for code := -1000; code <= 70000; code++ {
		if got := Usual(code); got != told[code] {
			t.Errorf("Usual(%d) is %q, want %q", code, got, told[code])
		}
	}
	for _, code := range []int{math.MinInt, math.MaxInt, 1 << 32, 1<<32 + 200, 1<<16 + 200, -200, math.MinInt + 200} {
		if got := Usual(code); got != "" {
			t.Errorf("Usual(%d) is %q", code, got)
		}
	}
}

// P10.4

func TestPrintedRequestsAreReadBack(t *testing.T) {
	methods := slices.Concat([]string{"GET", tokens, strings.Repeat("m", 4000)}, strings.Split(tokens, ""))
	targets := slices.Concat([]string{"/", "http://ex.com:80/a?b#c", "HTTP/1.1", shownText(), strings.Repeat("t", 4000)}, strings.Split(shownText(), ""))
	for _, method := range methods {
		for _, target := range targets {
			for minor := range 2 {
				checkRequest(t, PrintRequest(method, target, minor), asked{method, target, minor, 0})
			}
		}
	}
	for _, minor := range []int{-1, 2, 10, 11, math.MaxInt, math.MinInt} {
		checkRequest(t, PrintRequest("GET", "/", minor), asked{code: docErrLine})
	}
}

func TestPrintedStatusesAreReadBack(t *testing.T) {
	reasons := []string{"", "OK", " ", "  OK  ", "\t", "a b c", "HTTP/1.0 200 OK", "\x80\xff", strings.Repeat("r", 8179)}
	for c := range 256 {
		if isText(one(c)) {
			reasons = append(reasons, one(c), "a"+one(c)+"b")
		}
	}
	for code := 100; code <= 599; code++ {
		for _, reason := range reasons {
			for minor := range 2 {
				checkStatus(t, PrintStatus(code, reason, minor), said{code, reason, minor, 0})
			}
		}
	}
	for _, code := range []int{-100, -1, 0, 1, 10, 99, 600, 1000, 1001, math.MaxInt, math.MinInt} {
		checkStatus(t, PrintStatus(code, "OK", 1), said{code: docErrLine})
	}
	for _, minor := range []int{-1, 2, 10, 11, math.MaxInt, math.MinInt} {
		checkStatus(t, PrintStatus(200, "OK", minor), said{code: docErrLine})
	}
}

// The usual reasons may stand in a line.
func TestUsualReasonsAreReadBack(t *testing.T) {
	for code := 100; code <= 599; code++ {
		checkStatus(t, PrintStatus(code, Usual(code), 1), said{code, Usual(code), 1, 0})
	}
}

// A line that is good is the one that is printed of its parts.
func TestReadLinesArePrintedBack(t *testing.T) {
	for _, s := range slices.Concat(near("GET /a HTTP/1.1"), near("HTTP/1.0 404 a"), words(6, "G", "/", " ", "HTTP/1.1", "200")) {
		if x := request(s); x.code == 0 && PrintRequest(x.method, x.target, x.minor) != s {
			t.Errorf("the parts of %q are printed as another line", s)
		}
		if x := status(s); x.code == 0 && PrintStatus(x.status, x.reason, x.minor) != s {
			t.Errorf("the parts of %q are printed as another line", s)
		}
	}
}

// R1: great inputs, which end soon.

func TestGreatInputs(t *testing.T) {
	for _, part := range []string{"GET ", " ", "\x00", "HTTP/1.1 ", "200 "} {
		s := strings.Repeat(part, 1<<22)
		checkRequest(t, s, asked{code: docErrLong})
		checkStatus(t, s, said{code: docErrLong})
		if got := PrintRequest(s, s, 1); len(got) != 2*len(s)+10 {
			t.Errorf("a printed request of %d bytes", len(got))
		}
		if got := PrintStatus(200, s, 1); len(got) != len(s)+13 {
			t.Errorf("a printed status of %d bytes", len(got))
		}
	}
}
