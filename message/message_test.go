package message

import (
	"math"
	"math/rand"
	"regexp"
	"slices"
	"strconv"
	"strings"
	"testing"

	"depot/api"
)

// The numbers and bytes that the document names, written out, so that a test
// does not lean on what the package uses.
const (
	docErrLong    = 4
	docErrForm    = 5
	docErrShort   = 6
	docErrLine    = 20
	docErrField   = 21
	docErrFraming = 22
	docErrChunk   = 25
	docErrHost    = 26
	maxMessage    = 65536
	maxText       = 8192
	maxFields     = 64
	nl            = "\r\n"
	tokens        = "0123456789abcdefghijklmnopqrstuvwxyzABCDEFGHIJKLMNOPQRSTUVWXYZ!#$%&'*+-.^_`|~"
)

// What the lines of a message are, by the words of the document alone.
var (
	requestForm = regexp.MustCompile("^([0-9A-Za-z!#$%&'*+.^_`|~-]+) ([!-~]+) HTTP/1\\.([01])$")
	statusForm  = regexp.MustCompile(`(?s)^HTTP/1\.([01]) ([1-5][0-9][0-9]) (.*)$`)
	fieldForm   = regexp.MustCompile("(?s)^([0-9A-Za-z!#$%&'*+.^_`|~-]+):[ \\t]*(.*?)[ \\t]*$")
	sizeForm    = regexp.MustCompile(`(?s)^([0-9A-Fa-f]{1,15})[ \t]*(;.*)?$`)
	numberForm  = regexp.MustCompile(`^[0-9]{1,18}$`)
)

// parts is what parsing answers; a request has no status and no reason, and a
// reply no method and no target.
type parts struct {
	method, target string
	status         int
	reason         string
	minor          int
	fields         []api.Field
	body           string
	code           api.Errno
}

// top is what a head is told to be, and what follows it.
type top struct {
	start string
	lines []string
	rest  string
}

func request(raw string) parts {
	r, e := ParseRequest(raw)
	return parts{method: r.Method, target: r.Target, minor: r.Minor, fields: r.Fields, body: r.Body, code: e}
}

func reply(raw, method string) parts {
	r, e := ParseReply(raw, method)
	return parts{status: r.Code, reason: r.Reason, minor: r.Minor, fields: r.Fields, body: r.Body, code: e}
}

// equal tells whether parsing answered what it is to answer. No fields and a
// list of none are the same.
func equal(a, b parts) bool {
	return a.method == b.method && a.target == b.target && a.status == b.status && a.reason == b.reason &&
		a.minor == b.minor && slices.Equal(a.fields, b.fields) && a.body == b.body && a.code == b.code
}

// one answers the text of a single byte.
func one(c int) string {
	return string([]byte{byte(c)})
}

// number answers the number of digits.
func number(s string) int {
	n, _ := strconv.Atoi(s)
	return n
}

// isText tells whether a text may be a reason or a value.
func isText(s string) bool {
	for i := range len(s) {
		if c := s[i]; c != 9 && c < 32 || c == 127 {
			return false
		}
	}
	return true
}

// low makes the letters A to Z small, and no other ones.
func low(s string) string {
	b := []byte(s)
	for i, c := range b {
		if c >= 'A' && c <= 'Z' {
			b[i] = c + 32
		}
	}
	return string(b)
}

// isFraming tells whether a name is one of a framing field.
func isFraming(name string) bool {
	return slices.Contains([]string{"content-length", "transfer-encoding", "trailer"}, low(name))
}

// values answers the values of all fields of a name, which is given small.
func values(l []api.Field, name string) []string {
	var all []string
	for _, f := range l {
		if low(f.Name) == name {
			all = append(all, f.Value)
		}
	}
	return all
}

// lineAt answers the line that begins at a place, and the place behind its
// end; the place is negative if the line does not end.
func lineAt(s string, at int) (string, int) {
	n := strings.Index(s[at:], nl)
	if n < 0 {
		return "", -1
	}
	return s[at : at+n], at + n + 2
}

// toldTop answers the lines of a head, by the words of the document.
func toldTop(raw string) (top, api.Errno) {
	if len(raw) > maxMessage {
		return top{}, docErrLong
	}
	var lines []string
	at := 0
	for {
		line, next := lineAt(raw, at)
		if next < 0 {
			return top{}, docErrForm
		}
		at = next
		if line == "" {
			break
		}
		lines = append(lines, line)
	}
	if len(lines) == 0 {
		return top{}, docErrForm
	}
	return top{lines[0], lines[1:], raw[at:]}, 0
}

// toldFields answers the fields of lines, by those words.
func toldFields(lines []string) ([]api.Field, api.Errno) {
	if len(lines) > maxFields {
		return nil, docErrLong
	}
	var l []api.Field
	for _, line := range lines {
		if len(line) > maxText {
			return nil, docErrLong
		}
		m := fieldForm.FindStringSubmatch(line)
		if m == nil || !isText(m[2]) {
			return nil, docErrField
		}
		l = append(l, api.Field{Name: m[1], Value: m[2]})
	}
	return l, 0
}

// toldHost tells of the hosts of a request, by those words.
func toldHost(l []api.Field, minor int) api.Errno {
	hosts := len(values(l, "host"))
	if hosts > 1 || hosts == 0 && minor == 1 {
		return docErrHost
	}
	return 0
}

// toldChunks answers a body in chunks that a text begins with, and where they
// end, by the words of the document.
func toldChunks(s string) (string, int, api.Errno) {
	body, at := "", 0
	for {
		line, next := lineAt(s, at)
		m := sizeForm.FindStringSubmatch(line)
		if next < 0 || m == nil || !isText(m[2]) {
			return "", 0, docErrChunk
		}
		size, _ := strconv.ParseUint(m[1], 16, 64)
		if size+uint64(len(body)) > maxMessage {
			return "", 0, docErrLong
		}
		if at = next; size == 0 {
			break
		}
		behind := at + int(size)
		if behind+2 > len(s) || s[behind:behind+2] != nl {
			return "", 0, docErrChunk
		}
		body += s[at:behind]
		at = behind + 2
	}
	for lines := 0; ; lines++ {
		line, next := lineAt(s, at)
		if next < 0 {
			return "", 0, docErrChunk
		}
		at = next
		if line == "" {
			return body, at, 0
		}
		if _, e := toldFields([]string{line}); e != 0 {
			return "", 0, docErrChunk
		}
		if lines == maxFields {
			return "", 0, docErrLong
		}
	}
}

// toldLength answers the length that fields give, or a negative number. As no
// element with a quote is a number, and a list with half a one is none, quotes
// need not be told apart.
func toldLength(given []string) int {
	length := -1
	for _, value := range given {
		for _, element := range strings.Split(value, ",") {
			element = strings.Trim(element, " \t")
			if element == "" {
				continue
			}
			n, _ := strconv.ParseInt(element, 10, 64)
			if !numberForm.MatchString(element) || n > maxMessage || length >= 0 && int(n) != length {
				return -1
			}
			length = int(n)
		}
	}
	return length
}

// toldBody answers the body of a message, by those words.
func toldBody(p parts, rest string, isReply, silent bool) (string, api.Errno) {
	codings, lengths := values(p.fields, "transfer-encoding"), values(p.fields, "content-length")
	switch {
	case isReply && silent:
		if rest != "" {
			return "", docErrFraming
		}
		return "", 0
	case len(codings) > 0:
		if p.minor != 1 || len(codings) > 1 || low(codings[0]) != "chunked" || len(lengths) > 0 {
			return "", docErrFraming
		}
		body, n, e := toldChunks(rest)
		if e == 0 && n < len(rest) {
			return "", docErrFraming
		}
		return body, e
	case len(lengths) > 0:
		n := toldLength(lengths)
		switch {
		case n < 0 || n < len(rest):
			return "", docErrFraming
		case n > len(rest):
			return "", docErrShort
		}
		return rest, 0
	case !isReply && rest != "":
		return "", docErrFraming
	}
	return rest, 0
}

// finish answers what parsing is to answer behind the first line.
func finish(p parts, h top, isReply, silent bool) parts {
	var e api.Errno
	if p.fields, e = toldFields(h.lines); e != 0 {
		return parts{code: e}
	}
	if e = toldHost(p.fields, p.minor); e != 0 && !isReply {
		return parts{code: e}
	}
	if p.body, e = toldBody(p, h.rest, isReply, silent); e != 0 {
		return parts{code: e}
	}
	p.fields = slices.DeleteFunc(p.fields, func(f api.Field) bool { return isFraming(f.Name) })
	return p
}

// toldRequest answers what ParseRequest is to answer.
func toldRequest(raw string) parts {
	h, e := toldTop(raw)
	if e != 0 {
		return parts{code: e}
	}
	m := requestForm.FindStringSubmatch(h.start)
	switch {
	case len(h.start) > maxText:
		return parts{code: docErrLong}
	case m == nil:
		return parts{code: docErrLine}
	}
	return finish(parts{method: m[1], target: m[2], minor: number(m[3])}, h, false, false)
}

// toldReply answers what ParseReply is to answer.
func toldReply(raw, method string) parts {
	h, e := toldTop(raw)
	if e != 0 {
		return parts{code: e}
	}
	m := statusForm.FindStringSubmatch(h.start)
	switch {
	case len(h.start) > maxText:
		return parts{code: docErrLong}
	case m == nil || !isText(m[3]) || m[2] < "200":
		return parts{code: docErrLine}
	}
	return finish(parts{status: number(m[2]), reason: m[3], minor: number(m[1])}, h, true, method == "HEAD" || m[2] == "204" || m[2] == "304")
}

// toldPrint answers a message, by those words.
func toldPrint(start string, l []api.Field, measured bool, measure int, body string) string {
	lines := []string{start}
	for _, f := range l {
		lines = append(lines, f.Name+": "+f.Value)
	}
	if measured {
		lines = append(lines, "Content-Length: "+strconv.Itoa(measure))
	}
	return strings.Join(append(lines, "", ""), nl) + body
}

func toldPrintRequest(r api.Request) string {
	start := r.Method + " " + r.Target + " HTTP/1." + strconv.Itoa(r.Minor)
	return toldPrint(start, r.Fields, r.Body != "", len(r.Body), r.Body)
}

func toldPrintReply(r api.Reply, head bool) string {
	start := "HTTP/1." + strconv.Itoa(r.Minor) + " " + strconv.Itoa(r.Code) + " " + r.Reason
	bodiless := r.Code == 204 || r.Code == 304
	body := r.Body
	if bodiless || head {
		body = ""
	}
	return toldPrint(start, r.Fields, !bodiless && !(head && r.Body == ""), len(r.Body), body)
}

// toldCheck tells of the fields of a message, and more of it by later, and of
// its printed form.
func toldCheck(l []api.Field, printed string, later api.Errno) api.Errno {
	if len(l) > maxFields {
		return docErrLong
	}
	long, framing := false, false
	for _, f := range l {
		ends := strings.HasPrefix(f.Value, " ") || strings.HasPrefix(f.Value, "\t") || strings.HasSuffix(f.Value, " ") || strings.HasSuffix(f.Value, "\t")
		if f.Name == "" || strings.Trim(f.Name, tokens) != "" || !isToken(f.Name) || !isText(f.Value) || ends {
			return docErrField
		}
		long = long || len(f.Name)+2+len(f.Value) > maxText
		framing = framing || isFraming(f.Name)
	}
	head, _, _ := strings.Cut(printed, nl+nl)
	switch {
	case long:
		return docErrLong
	case framing:
		return docErrField
	case later != 0:
		return later
	case len(printed) > maxMessage || strings.Count(head, nl) > maxFields:
		return docErrLong
	}
	return 0
}

// isToken tells whether a text is a token.
func isToken(s string) bool {
	for i := range len(s) {
		if !strings.Contains(tokens, s[i:i+1]) {
			return false
		}
	}
	return s != ""
}

func toldCheckRequest(r api.Request) api.Errno {
	shown := r.Target != ""
	for i := range len(r.Target) {
		shown = shown && r.Target[i] >= 33 && r.Target[i] <= 126
	}
	if !isToken(r.Method) || !shown || r.Minor != 0 && r.Minor != 1 || len(r.Method)+len(r.Target)+len("  HTTP/1.1") > maxText {
		return docErrLine
	}
	return toldCheck(r.Fields, toldPrintRequest(r), toldHost(r.Fields, r.Minor))
}

func toldCheckReply(r api.Reply) api.Errno {
	if r.Code < 200 || r.Code > 599 || !isText(r.Reason) || r.Minor != 0 && r.Minor != 1 || len("HTTP/1.1 200 ")+len(r.Reason) > maxText {
		return docErrLine
	}
	var framing api.Errno
	if r.Body != "" && (r.Code == 204 || r.Code == 304) {
		framing = docErrFraming
	}
	return toldCheck(r.Fields, toldPrintReply(r, false), framing)
}

// words answers all texts of at most most of the parts.
func words(most int, parts ...string) []string {
	all := []string{""}
	last := all
	for range most {
		var next []string
		for _, w := range last {
			for _, p := range parts {
				next = append(next, w+p)
			}
		}
		all = append(all, next...)
		last = next
	}
	return all
}

// near answers the texts that are a byte away from one: each byte changed,
// left out, or with a byte put ahead of it, its beginnings and its ends.
func near(s string) []string {
	var all []string
	for i := range len(s) + 1 {
		for c := range 256 {
			all = append(all, s[:i]+one(c)+s[i:])
			if i < len(s) {
				all = append(all, s[:i]+one(c)+s[i+1:])
			}
		}
		all = append(all, s[:i], s[i:])
		if i < len(s) {
			all = append(all, s[:i]+s[i+1:])
		}
	}
	return all
}

// allBytes answers a text of every byte.
func allBytes() string {
	var b []byte
	for c := range 256 {
		b = append(b, byte(c))
	}
	return string(b)
}

// many answers so many fields.
func many(n int) []api.Field {
	return slices.Repeat([]api.Field{{Name: "x", Value: "y"}}, n)
}

// padded answers a text of a length, between a beginning and an end.
func padded(n int, ahead, behind string) string {
	return ahead + strings.Repeat("p", n-len(ahead)-len(behind)) + behind
}

func checkRequest(t *testing.T, raw string, want parts) {
	t.Helper()
	if got := request(raw); !equal(got, want) {
		t.Errorf("ParseRequest(%.120q) of %d bytes is %.200v, want %.200v", raw, len(raw), got, want)
	}
}

func checkReply(t *testing.T, raw, method string, want parts) {
	t.Helper()
	if got := reply(raw, method); !equal(got, want) {
		t.Errorf("ParseReply(%.120q, %q) of %d bytes is %.200v, want %.200v", raw, method, len(raw), got, want)
	}
}

// both holds a text with each of two first lines against an error.
func both(t *testing.T, behind string, want api.Errno) {
	t.Helper()
	checkRequest(t, "GET / HTTP/1.1\r\nHost: a\r\n"+behind, parts{code: want})
	checkReply(t, "HTTP/1.1 200 OK\r\nHost: a\r\n"+behind, "GET", parts{code: want})
}

// checkAll holds texts against the words of the document, as requests and as
// replies to several methods, and asks that so many of them are good.
func checkAll(t *testing.T, all []string, least int) {
	t.Helper()
	good := 0
	for _, s := range all {
		want := toldRequest(s)
		checkRequest(t, s, want)
		if want.code == 0 {
			good++
		}
		for _, method := range []string{"GET", "HEAD"} {
			want = toldReply(s, method)
			checkReply(t, s, method, want)
			if want.code == 0 {
				good++
			}
		}
		if t.Failed() {
			return
		}
	}
	if good < least {
		t.Errorf("only %d of %d texts were good", good, len(all))
	}
}

// P12.1

func TestLongMessages(t *testing.T) {
	for _, start := range []string{"POST / HTTP/1.1\r\nHost: a\r\n", "HTTP/1.1 200 OK\r\n"} {
		for _, n := range []int{65535, 65536, 65537, 65538, 1 << 17} {
			length := n - len(start) - len("Content-Length: 12345\r\n\r\n")
			raw := padded(n, start+"Content-Length: "+strconv.Itoa(length)+"\r\n\r\n", "")
			if n > 65536 {
				checkRequest(t, raw, parts{code: docErrLong})
				checkReply(t, raw, "GET", parts{code: docErrLong})
				continue
			}
			checkRequest(t, raw, toldRequest(raw))
			checkReply(t, raw, "GET", toldReply(raw, "GET"))
			if min(request(raw).code, reply(raw, "GET").code) != 0 {
				t.Errorf("a message of %d bytes is too long", n)
			}
		}
	}
	// The length counts ahead of whatever else is wrong.
	for _, part := range []string{"x", "\r\n", "\r\n\r\n", "bad\r\n", "\x00", "GET / HTTP/1.1\r\n", " "} {
		n := 65536/len(part) + 1
		for _, raw := range []string{strings.Repeat(part, n), "GET / HTTP/1.1\r\n\r\n" + strings.Repeat(part, n), "HTTP/1.1 200 OK\r\n\r\n" + strings.Repeat(part, n)} {
			checkRequest(t, raw, parts{code: docErrLong})
			checkReply(t, raw, "GET", parts{code: docErrLong})
			checkReply(t, raw, "HEAD", parts{code: docErrLong})
		}
	}
}

func TestHeadsWithoutEndOrLine(t *testing.T) {
	for _, raw := range []string{
		"", "\r\n", "\r\n\r\n", "\r\n\r\n\r\n", "\r", "\n", "x", " ", "\r\nx\r\n\r\n", "\r\nGET / HTTP/1.1\r\nHost: a\r\n\r\n", "\r\nHTTP/1.1 200 OK\r\n\r\n", "\r\n\r\nHTTP/1.1 200 OK\r\n\r\n",
		"GET / HTTP/1.1", "GET / HTTP/1.1\r\n", "GET / HTTP/1.1\r\nHost: a", "GET / HTTP/1.1\r\nHost: a\r\n", "GET / HTTP/1.1\r\nHost: a\r\n\r", "GET / HTTP/1.1\r\nHost: a\r\n\n", "GET / HTTP/1.1\r\nHost: a\r\n \r\n",
		"GET / HTTP/1.1\nHost: a\n\n", "GET / HTTP/1.1\rHost: a\r\r", "GET / HTTP/1.1\n\rHost: a\n\r\n\r", "GET / HTTP/1.1\r\nHost: a\n\r\n", "GET / HTTP/1.0\r\n\n\r\n",
		"HTTP/1.1 200 OK", "HTTP/1.1 200 OK\r\n", "HTTP/1.1 200 OK\n\n", "HTTP/1.1 200 OK\r\n\n", "HTTP/1.1 200 OK\n\r\n", "HTTP/1.1 200 OK\r\nA: b\r\n", "HTTP/1.1 200 OK\r\nA: b\r\n\t\r\n",
		// The form of the head counts ahead of that of its lines.
		"bad\r\n", "bad", "GET / HTTP/9\r\nbad\r\n", "HTTP/1.1 100 x\r\n", strings.Repeat("x", 65536), strings.Repeat("x", 65534) + nl, strings.Repeat("x\r\n", 21845),
	} {
		checkRequest(t, raw, parts{code: docErrForm})
		checkReply(t, raw, "GET", parts{code: docErrForm})
		checkReply(t, raw, "HEAD", parts{code: docErrForm})
	}
}

func TestFirstLines(t *testing.T) {
	for _, line := range []string{
		" ", "x", "GET", "GET /", "GET / HTTP/2.0", "GET / HTTP/1.2", "GET / http/1.1", "GET  / HTTP/1.1", " GET / HTTP/1.1", "GET / HTTP/1.1 ", "G(T / HTTP/1.1", "GET /\x7f HTTP/1.1", "GET / HTTP/1.1\n", "GET / HTTP/1.1\r", "GET / HTTP/1.1\rX", "\nGET / HTTP/1.1",
		"HTTP/1.1 99 x", "HTTP/1.1 600 x", "HTTP/1.1 200", "HTTP/1.1  200 x", "HTTP/2.0 200 x", "HTTP/1.1 0200 x", "HTTP/1.1 200 \x00", "HTTP/1.1 200 x\r", "HTTP/1.1 200 x\ny", "HTTP/1.1 2x0 x", "http/1.1 200 x", "\xff",
		// The first line counts ahead of all others.
		"x\r\nbad", "x\r\nHost: a\r\nHost: b", "x" + strings.Repeat("\r\na: b", 65), "x\r\nTransfer-Encoding: x", "x\r\n" + padded(8193, "a:", ""),
	} {
		for _, rest := range []string{"", "x", nl} {
			checkRequest(t, line+nl+nl+rest, parts{code: docErrLine})
			checkReply(t, line+nl+nl+rest, "GET", parts{code: docErrLine})
			checkReply(t, line+nl+nl+rest, "HEAD", parts{code: docErrLine})
		}
	}
	for code := range 1000 {
		want := parts{status: code, reason: "x", minor: 1}
		if code < 200 || code > 599 {
			want = parts{code: docErrLine}
		}
		digits := strconv.Itoa(1000 + code)[1:]
		checkReply(t, "HTTP/1.1 "+digits+" x\r\n\r\n", "GET", want)
		checkReply(t, "HTTP/1.1 "+digits+" x\r\n\r\n", "HEAD", want)
		if want.code != 0 {
			checkReply(t, "HTTP/1.1 "+digits+" x\r\nbad\r\n\r\nx", "GET", want)
		}
	}
	checkRequest(t, "HTTP/1.1 200 OK\r\n\r\n", parts{code: docErrLine})
	checkReply(t, "GET / HTTP/1.1\r\nHost: a\r\n\r\n", "GET", parts{code: docErrLine})
}

func TestLongFirstLines(t *testing.T) {
	for _, n := range []int{8191, 8192, 8193, 20000} {
		for _, x := range [][2]string{{"GET /", " HTTP/1.1"}, {"", " / HTTP/1.0"}, {"HTTP/1.0 200 ", ""}, {"HTTP/1.1 404 ", ""}} {
			line := padded(n, x[0], x[1])
			for _, behind := range []string{"\r\nHost: a\r\n\r\n", "\r\nbad\r\n\r\n"} {
				checkRequest(t, line+behind, toldRequest(line+behind))
				checkReply(t, line+behind, "GET", toldReply(line+behind, "GET"))
				if long := n > 8192; long != (request(line+behind).code == docErrLong) || long != (reply(line+behind, "HEAD").code == docErrLong) {
					t.Errorf("a line of %d bytes is told to be long or not", n)
				}
			}
		}
	}
	// A line of a code below 200 that is too long is told to be too long.
	checkReply(t, padded(8193, "HTTP/1.1 100 ", "")+nl+nl, "GET", parts{code: docErrLong})
	checkReply(t, padded(8192, "HTTP/1.1 100 ", "")+nl+nl, "GET", parts{code: docErrLine})
}

func TestNumbersOfLines(t *testing.T) {
	host := []api.Field{{Name: "Host", Value: "a"}}
	for _, n := range []int{0, 1, 62, 63} {
		want := append(slices.Clone(host), many(n)...)
		lines := "Host: a\r\n" + strings.Repeat("x: y\r\n", n) + nl
		checkRequest(t, "GET / HTTP/1.1\r\n"+lines, parts{method: "GET", target: "/", minor: 1, fields: want})
		checkReply(t, "HTTP/1.1 200 OK\r\n"+lines, "GET", parts{status: 200, reason: "OK", minor: 1, fields: want})
	}
	for _, n := range []int{64, 65, 1000} {
		both(t, strings.Repeat("x: y\r\n", n)+nl, docErrLong)
		// The number of the lines counts ahead of what they are, and of the host.
		both(t, strings.Repeat("bad\r\n", n)+nl, docErrLong)
		both(t, "bad\r\n"+strings.Repeat("x: y\r\n", n)+nl, docErrLong)
		both(t, strings.Repeat("Host: b\r\n", n)+nl, docErrLong)
		checkRequest(t, "GET / HTTP/1.1\r\n"+strings.Repeat("x: y\r\n", n+1)+nl, parts{code: docErrLong})
		// Framing fields are lines as well.
		both(t, strings.Repeat("x: y\r\n", n-1)+"Content-Length: 0\r\n\r\n", docErrLong)
		both(t, strings.Repeat("Trailer: y\r\n", n)+nl, docErrLong)
	}
	raw := "GET / HTTP/1.1\r\nHost: a\r\n" + strings.Repeat("x: y\r\n", 62) + "Content-Length: 1\r\n\r\nb"
	checkRequest(t, raw, parts{method: "GET", target: "/", minor: 1, fields: append(slices.Clone(host), many(62)...), body: "b"})
	raw = "HTTP/1.0 200 OK\r\n" + strings.Repeat("Trailer: y\r\n", 64) + "\r\n" + strings.Repeat("x: y\r\n", 65)
	checkReply(t, raw, "GET", parts{status: 200, reason: "OK", body: strings.Repeat("x: y\r\n", 65)})
}

func TestFieldsOfHeads(t *testing.T) {
	for _, line := range []string{
		"bad", ":", ": b", " a: b", "\ta: b", "a : b", "a\t: b", "a(: b", "\x80: b", "a: \x00", "a: \x7f", "a: b\rc", "a: b\nc", "a: b\n", "a: b\r", "a: b\r\n c", " ", "\t", "\n", "\r", "Host", "Content-Length", "Transfer-Encoding : chunked", "Content-Length 2",
	} {
		// The form of the fields counts ahead of the hosts and the body.
		for _, behind := range []string{"", "Host: b\r\n", "Content-Length: 1, 2\r\n", "Transfer-Encoding: x\r\n", padded(8193, "a:", nl)} {
			both(t, line+nl+behind+nl, docErrField)
			both(t, line+nl+behind+nl+"x", docErrField)
			checkRequest(t, "GET / HTTP/1.1\r\n"+line+nl+behind+nl, parts{code: docErrField})
			checkReply(t, "HTTP/1.1 304 OK\r\n"+line+nl+behind+nl, "HEAD", parts{code: docErrField})
		}
	}
	for _, n := range []int{8191, 8192, 8193, 20000} {
		for _, line := range []string{padded(n, "a:", ""), padded(n, "a: ", " "), padded(n, "", ":"), "Content-Length:" + strings.Repeat(" ", n-16) + "0"} {
			// The first line with an error counts.
			want := api.Errno(docErrField)
			if n > 8192 {
				want = docErrLong
			}
			both(t, line+nl+"bad\r\n\r\n", want)
			both(t, "bad\r\n"+line+nl+nl, docErrField)
			both(t, "a: b\r\n"+padded(8193, "a: ", "")+nl+line+nl+"bad\r\n\r\n", docErrLong)
			checkAll(t, []string{"GET / HTTP/1.0\r\n" + line + nl + nl, "HTTP/1.1 200 OK\r\n" + line + nl + nl}, 0)
		}
	}
	// A line that is too long, and no field either, is told to be too long.
	both(t, strings.Repeat("\x00", 8193)+nl+nl, docErrLong)
	both(t, strings.Repeat("\x00", 8192)+nl+nl, docErrField)
}

func TestHosts(t *testing.T) {
	for lines, want := range map[string][2]api.Errno{
		"":                                  {0, docErrHost},
		"X: y\r\n":                          {0, docErrHost},
		"Hosts: a\r\nHos: b\r\n":            {0, docErrHost},
		"X: Host: a\r\n":                    {0, docErrHost},
		"Host: a\r\n":                       {0, 0},
		"Host:\r\n":                         {0, 0},
		"Host: a, b\r\n":                    {0, 0},
		"hOST: \xff(\r\n":                   {0, 0},
		"X: y\r\nhost: a\r\n":               {0, 0},
		"Host: a\r\nHost: a\r\n":            {docErrHost, docErrHost},
		"Host: a\r\nhost: b\r\n":            {docErrHost, docErrHost},
		"Host:\r\nHOST:\r\n":                {docErrHost, docErrHost},
		"Host: a\r\nX: y\r\nHost: a\r\n":    {docErrHost, docErrHost},
		strings.Repeat("Host: a\r\n", 3):    {docErrHost, docErrHost},
		strings.Repeat("Host: a\r\n", 64):   {docErrHost, docErrHost},
		"Content-Length: x\r\n":             {docErrFraming, docErrHost},
		"Transfer-Encoding: gzip\r\n":       {docErrFraming, docErrHost},
		"Transfer-Encoding: chunked\r\n":    {docErrFraming, docErrHost},
		"Content-Length: 1\r\n":             {docErrShort, docErrHost},
		"Host: a\r\nContent-Length: 1\r\n":  {docErrShort, docErrShort},
		"Host: a\r\nhost: a\r\nTrailer:\nx": {docErrForm, docErrForm},
	} {
		for minor, code := range want {
			raw := "GET / HTTP/1." + strconv.Itoa(minor) + nl + lines + nl
			if got := request(raw); got.code != code {
				t.Errorf("ParseRequest(%q) is %d, want %d", raw, got.code, code)
			}
			checkRequest(t, raw, toldRequest(raw))
			// A reply may have any number of them.
			raw = "HTTP/1." + strconv.Itoa(minor) + " 204 x\r\n" + lines + nl
			checkReply(t, raw, "GET", toldReply(raw, "GET"))
			if got := reply(raw, "GET"); got.code == docErrHost {
				t.Errorf("ParseReply(%q) asks for a host", raw)
			}
		}
	}
	// The host counts ahead of the body.
	checkRequest(t, "GET / HTTP/1.1\r\n\r\nx", parts{code: docErrHost})
	checkRequest(t, "GET / HTTP/1.0\r\n\r\nx", parts{code: docErrFraming})
	// It is asked for whatever the target has.
	checkRequest(t, "GET http://a/ HTTP/1.1\r\n\r\n", parts{code: docErrHost})
}

// P12.2

// rests are what may follow a head, with the errors of bodies in chunks.
func rests() map[string]api.Errno {
	return map[string]api.Errno{
		"":                     docErrChunk,
		"x":                    docErrChunk,
		"\r\n":                 docErrChunk,
		"0\r\n":                docErrChunk,
		"0\r\n\r":              docErrChunk,
		"0\r\n\r\n":            0,
		"2\r\nab\r\n0\r\n\r\n": 0,
		"1;x\r\na\r\n1\r\nb\r\n0\r\nT: 1\r\n\r\n":     0,
		"2\r\nab\r\n0\r\n":                            docErrChunk,
		"2\r\nab\r\n":                                 docErrChunk,
		"3\r\nab\r\n0\r\n\r\n":                        docErrChunk,
		"g\r\n\r\n":                                   docErrChunk,
		"0\r\nbad\r\n\r\n":                            docErrChunk,
		"0\r\n\r\nx":                                  docErrFraming,
		"0\r\n\r\n\r\n":                               docErrFraming,
		"2\r\nab\r\n0\r\n\r\n0\r\n\r\n":               docErrFraming,
		"0\r\n\r\nGET / HTTP/1.1\r\n\r\n":             docErrFraming,
		"10001\r\n":                                   docErrLong,
		"1\r\na\r\n10000\r\n":                         docErrLong,
		"fffffffffffffff\r\nx":                        docErrLong,
		"0\r\n" + strings.Repeat("T: 1\r\n", 64) + nl: 0,
		"0\r\n" + strings.Repeat("T: 1\r\n", 65) + nl: docErrLong,
		"100\r\n" + allBytes() + "\r\n0\r\n\r\n":      0,
	}
}

func TestNoBodies(t *testing.T) {
	for _, lines := range []string{
		"", "X: y\r\n", "Content-Length: 0\r\n", "Content-Length: 1\r\n", "Content-Length: 65537\r\n", "Content-Length: x\r\n", "Content-Length: 1, 2\r\n", "Content-Length:\r\n", "Content-Length: \"\r\n", "Transfer-Encoding: chunked\r\n", "Transfer-Encoding: gzip\r\n",
		"Content-Length: 1\r\nTransfer-Encoding: chunked\r\n", "Transfer-Encoding: chunked\r\nTransfer-Encoding: chunked\r\n", "Trailer: x\r\n", "Content-Length: 1\r\nContent-Length: 2\r\n",
	} {
		for _, minor := range []int{0, 1} {
			for _, x := range []struct{ code, method string }{{"200", "HEAD"}, {"204", "GET"}, {"304", "GET"}, {"204", "HEAD"}, {"304", "HEAD"}, {"404", "HEAD"}, {"204", "POST"}, {"304", ""}, {"599", "HEAD"}} {
				want := parts{status: number(x.code), reason: "x", minor: minor}
				if lines == "X: y\r\n" {
					want.fields = []api.Field{{Name: "X", Value: "y"}}
				}
				raw := "HTTP/1." + strconv.Itoa(minor) + " " + x.code + " x\r\n" + lines + nl
				checkReply(t, raw, x.method, want)
				for _, rest := range []string{"x", nl, "0\r\n\r\n", "\x00", "HTTP/1.1 200 OK\r\n\r\n", strings.Repeat("x", 1000)} {
					checkReply(t, raw+rest, x.method, parts{code: docErrFraming})
				}
			}
		}
	}
	// Other codes and methods have bodies.
	for _, x := range []struct{ code, method string }{{"200", "head"}, {"200", "Head"}, {"200", "HEADS"}, {"200", "HEAD "}, {"200", ""}, {"203", "GET"}, {"205", "GET"}, {"303", "GET"}, {"305", "GET"}, {"200", "CONNECT"}, {"404", "GET"}} {
		want := parts{status: number(x.code), reason: "x", minor: 1, body: "ab"}
		checkReply(t, "HTTP/1.1 "+x.code+" x\r\n\r\nab", x.method, want)
		checkReply(t, "HTTP/1.1 "+x.code+" x\r\nContent-Length: 2\r\n\r\nab", x.method, want)
		checkReply(t, "HTTP/1.1 "+x.code+" x\r\nContent-Length: 2\r\n\r\n", x.method, parts{code: docErrShort})
	}
	// A HEAD request itself is like any other.
	checkRequest(t, "HEAD / HTTP/1.0\r\nContent-Length: 2\r\n\r\nab", parts{method: "HEAD", target: "/", body: "ab"})
	checkRequest(t, "HEAD / HTTP/1.0\r\nContent-Length: 2\r\n\r\n", parts{code: docErrShort})
}

func TestBodiesInChunks(t *testing.T) {
	bodies := map[string]string{"2\r\nab\r\n0\r\n\r\n": "ab", "1;x\r\na\r\n1\r\nb\r\n0\r\nT: 1\r\n\r\n": "ab", "100\r\n" + allBytes() + "\r\n0\r\n\r\n": allBytes()}
	host := []api.Field{{Name: "Host", Value: "a"}}
	for rest, code := range rests() {
		for _, lines := range []string{"Transfer-Encoding: chunked\r\n", "transfer-encoding:CHUNKED\r\n", "Trailer: T\r\nTRANSFER-ENCODING: \t Chunked \r\nTrailer:\r\n", "Transfer-encoding: chunKed\t\r\ntrailer: Content-Length\r\n"} {
			wantRequest := parts{method: "GET", target: "/", minor: 1, fields: host, body: bodies[rest]}
			wantReply := parts{status: 200, reason: "OK", minor: 1, fields: host, body: bodies[rest]}
			if code != 0 {
				wantRequest, wantReply = parts{code: code}, parts{code: code}
			}
			checkRequest(t, "GET / HTTP/1.1\r\nHost: a\r\n"+lines+nl+rest, wantRequest)
			checkReply(t, "HTTP/1.1 200 OK\r\nHost: a\r\n"+lines+nl+rest, "GET", wantReply)
		}
	}
}

func TestOtherCodings(t *testing.T) {
	for rest := range rests() {
		for _, lines := range []string{
			"Transfer-Encoding:\r\n", "Transfer-Encoding: gzip\r\n", "Transfer-Encoding: identity\r\n", "Transfer-Encoding: gzip, chunked\r\n", "Transfer-Encoding: chunked, chunked\r\n", "Transfer-Encoding: chunked,\r\n", "Transfer-Encoding: ,chunked\r\n", "Transfer-Encoding: \"chunked\"\r\n",
			"Transfer-Encoding: chunked;q=1\r\n", "Transfer-Encoding: chunke\r\n", "Transfer-Encoding: chunkedd\r\n", "Transfer-Encoding: chun\u212aed\r\n", "Transfer-Encoding: x chunked\r\n",
			"Transfer-Encoding: chunked\r\nTransfer-Encoding: chunked\r\n", "Transfer-Encoding: chunked\r\ntransfer-encoding:\r\n", "Transfer-Encoding:\r\nTransfer-Encoding: chunked\r\n", "Transfer-Encoding: chunked\r\nX: y\r\nTransfer-Encoding: gzip\r\n",
			"Transfer-Encoding: chunked\r\nContent-Length: 5\r\n", "Content-Length: 0\r\nTransfer-Encoding: chunked\r\n", "Transfer-Encoding: chunked\r\ncontent-length:\r\n", "Content-Length: 2\r\nTransfer-Encoding: gzip\r\n", "Content-Length: x\r\nTransfer-Encoding: chunked\r\n",
		} {
			both(t, lines+nl+rest, docErrFraming)
		}
		// No version but 1.1 has them.
		checkRequest(t, "GET / HTTP/1.0\r\nTransfer-Encoding: chunked\r\n\r\n"+rest, parts{code: docErrFraming})
		checkReply(t, "HTTP/1.0 200 OK\r\nTransfer-Encoding: chunked\r\n\r\n"+rest, "GET", parts{code: docErrFraming})
	}
	// Fields of other names tell of no chunks.
	for _, lines := range []string{"TE: chunked\r\n", "Transfer-Encodings: chunked\r\n", "Content-Encoding: chunked\r\n", "X: Transfer-Encoding: chunked\r\n"} {
		if got := reply("HTTP/1.1 200 OK\r\n"+lines+"\r\n0\r\n\r\n", "GET"); got.body != "0\r\n\r\n" || got.code != 0 || len(got.fields) != 1 {
			t.Errorf("with %q, the reply is %v", lines, got)
		}
		both(t, lines+"Content-Length: 4\r\n\r\n0\r\n\r\n", docErrFraming)
	}
}

func TestLengths(t *testing.T) {
	for lines, n := range map[string]int{
		"Content-Length: 0\r\n":                                    0,
		"Content-Length: 2\r\n":                                    2,
		"content-length:2\r\n":                                     2,
		"CONTENT-LENGTH: \t 12 \t\r\n":                             12,
		"Content-Length: 002\r\n":                                  2,
		"Content-Length: 000000000000000002\r\n":                   2,
		"Content-Length: 000000000000000000\r\n":                   0,
		"Content-Length: 2, 2\r\n":                                 2,
		"Content-Length: 2,2,002 ,\t02\r\n":                        2,
		"Content-Length: ,2,,\r\n":                                 2,
		"Content-Length: 2\r\nContent-Length: 2\r\n":               2,
		"Content-Length: 2\r\nX: y\r\ncontent-length: 02, 2\r\n":   2,
		"Content-Length:\r\nContent-Length: 2\r\n":                 2,
		"Content-Length: 2\r\nContent-Length: ,\r\n":               2,
		"Content-Length: 0\r\nContent-Length: 00\r\n":              0,
		"Content-Length: 0\r\nTrailer: x\r\n":                      0,
		"Content-Length: 300\r\nContent-Length: 0300\r\n":          300,
		"Content-Length: 65000\r\n":                                65000,
		"Content-Length: 065000,\r\nContent-Length: ,65000 , \r\n": 65000,
	} {
		for _, ahead := range []string{"POST / HTTP/1.0\r\n", "POST / HTTP/1.1\r\nHost: a\r\n", "HTTP/1.0 200 OK\r\n", "HTTP/1.1 404 x\r\n"} {
			for d := -2; d <= 2; d++ {
				if n+d < 0 {
					continue
				}
				rest := strings.Repeat("\r\n", n/2+2)[:n+d]
				want, raw := api.Errno(0), ahead+lines+nl+rest
				switch {
				case d < 0:
					want = docErrShort
				case d > 0:
					want = docErrFraming
				}
				got := request(raw)
				if strings.HasPrefix(ahead, "HTTP") {
					got = reply(raw, "GET")
				}
				if got.code != want || want == 0 && got.body != rest {
					t.Errorf("%.200q of %d bytes is %.100v, want %d", raw, len(raw), got, want)
				}
				checkAll(t, []string{raw}, 0)
			}
		}
	}
}

func TestOtherLengths(t *testing.T) {
	for _, lines := range []string{
		"Content-Length:\r\n", "Content-Length: ,\r\n", "Content-Length: , ,\t,\r\n", "Content-Length:\r\nContent-Length: ,,\r\n",
		"Content-Length: x\r\n", "Content-Length: -2\r\n", "Content-Length: +2\r\n", "Content-Length: 2.0\r\n", "Content-Length: 0x2\r\n", "Content-Length: 2 2\r\n", "Content-Length: 2;2\r\n", "Content-Length: \"2\"\r\n", "Content-Length: 2\"\r\n", "Content-Length: \"2\r\n", "Content-Length: 2, \"\"\r\n", "Content-Length: 2,\"\r\n", "Content-Length: a\r\n", "Content-Length: 2_\r\n", "Content-Length: \u0662\r\n", "Content-Length: 2e0\r\n",
		"Content-Length: 0000000000000000002\r\n", "Content-Length: 18446744073709551618\r\n", "Content-Length: 4294967298\r\n", "Content-Length: 65538\r\n", "Content-Length: 65537\r\n", "Content-Length: 999999999999999999\r\n", "Content-Length: 131074\r\n", "Content-Length: 9999999999999999999999\r\n",
		"Content-Length: 1, 2\r\n", "Content-Length: 2, 1\r\n", "Content-Length: 2, 2, 3\r\n", "Content-Length: 0, 2\r\n", "Content-Length: 2, 0\r\n", "Content-Length: 2, x\r\n", "Content-Length: x, 2\r\n", "Content-Length: 2, 65537\r\n",
		"Content-Length: 2\r\nContent-Length: 3\r\n", "Content-Length: 0\r\ncontent-length: 2\r\n", "Content-Length: 2\r\nContent-Length: 0\r\n", "Content-Length: 2\r\nContent-Length: x\r\n", "Content-Length: \"\r\nContent-Length: 2\r\n", "Content-Length: 2\r\nContent-Length: \"\r\n", "Content-Length: \"\r\nContent-Length: \"\r\n", "Content-Length: 2\r\nX: y\r\nContent-Length: 2, 1\r\n",
	} {
		for _, rest := range []string{"", "a", "ab", "abc", "0\r\n\r\n"} {
			both(t, lines+nl+rest, docErrFraming)
			checkRequest(t, "GET / HTTP/1.0\r\n"+lines+nl+rest, parts{code: docErrFraming})
			checkReply(t, "HTTP/1.0 200 OK\r\n"+lines+nl+rest, "GET", parts{code: docErrFraming})
		}
	}
	// The greatest length is that of a message, which has no place for it.
	both(t, "Content-Length: 65536\r\n\r\n", docErrShort)
	both(t, "Content-Length: 65536, 065536\r\n\r\n"+strings.Repeat("x", 65000), docErrShort)
	both(t, "Content-Length: 65537\r\n\r\n"+strings.Repeat("x", 65000), docErrFraming)
}

func TestBodiesWithoutLength(t *testing.T) {
	for _, rest := range []string{"x", nl, "0\r\n\r\n", "\x00", "HTTP/1.1 200 OK\r\n\r\n", "\r\n\r\n\r\n", allBytes(), strings.Repeat("x", 60000)} {
		for _, lines := range []string{"", "X: y\r\n", "Trailer: y\r\n", "Connection: close\r\n", "Length: 0\r\n", "Content-Lengt: 0\r\n", "Content-Length-: 0\r\n"} {
			for _, minor := range []int{0, 1} {
				want := parts{status: 200, reason: "", minor: minor, body: rest}
				if name, value, ok := strings.Cut(strings.TrimRight(lines, nl), ": "); ok && name != "Trailer" {
					want.fields = []api.Field{{Name: name, Value: value}}
				}
				v := strconv.Itoa(minor)
				checkReply(t, "HTTP/1."+v+" 200 \r\n"+lines+nl+rest, "GET", want)
				for _, method := range []string{"GET", "POST", "PUT", "x"} {
					checkRequest(t, method+" / HTTP/1."+v+"\r\nHost: a\r\n"+lines+nl+rest, parts{code: docErrFraming})
				}
			}
		}
	}
	checkReply(t, "HTTP/1.1 200 \r\n\r\n", "GET", parts{status: 200, minor: 1})
}

// P12.3

func TestParts(t *testing.T) {
	checkRequest(t, "POST /x?a=b#c HTTP/1.1\r\nhOsT:a\r\nX-y:  1 2\t\r\ncontent-LENGTH: 2\r\nx-Y:\r\nTRAILER: q\r\nZ: \x80,\"\r\nTrailers: k\r\n\r\nab", parts{
		method: "POST", target: "/x?a=b#c", minor: 1, body: "ab",
		fields: []api.Field{{Name: "hOsT", Value: "a"}, {Name: "X-y", Value: "1 2"}, {Name: "x-Y"}, {Name: "Z", Value: "\x80,\""}, {Name: "Trailers", Value: "k"}}})
	checkRequest(t, "* ! HTTP/1.0\r\n\r\n", parts{method: "*", target: "!"})
	checkReply(t, "HTTP/1.0 599 a \xff\t\r\nTrailer: q\r\nA: 1\r\nTransfer-Encodin: x\r\ncontent-length: 3\r\na: 2\r\n\r\n\r\nz", "GET", parts{
		status: 599, reason: "a \xff\t", body: "\r\nz",
		fields: []api.Field{{Name: "A", Value: "1"}, {Name: "Transfer-Encodin", Value: "x"}, {Name: "a", Value: "2"}}})
	checkReply(t, "HTTP/1.1 200 \r\ntransfer-ENCODING: chunked\r\n\r\n1\r\na\r\n0\r\nB: c\r\n\r\n", "GET", parts{status: 200, minor: 1, body: "a"})
	// Framing fields go whether or not they tell of a body, however many there are.
	raw := "HTTP/1.1 304 \r\nContent-Length: 3\r\nA: b\r\nContent-Length: x\r\nTransfer-Encoding: q\r\ntransfer-encoding: q\r\nTrailer:\r\ntrailer:\r\n\r\n"
	checkReply(t, raw, "GET", parts{status: 304, minor: 1, fields: []api.Field{{Name: "A", Value: "b"}}})
}

func TestParsingByTheDocument(t *testing.T) {
	starts := []string{"GET / HTTP/1.1\r\n", "a b HTTP/1.0\r\n", "HTTP/1.1 200 OK\r\n", "HTTP/1.0 404 \r\n", "HTTP/1.1 304 x\r\n", "HTTP/1.1 199 x\r\n", "bad\r\n", ""}
	lines := words(2, "Host: a\r\n", "host:\r\n", "X: 1\r\n", "Content-Length: 0\r\n", "content-length: 2\r\n", "Content-Length: 02 ,2,\r\n", "Content-Length:\r\n", "Content-Length: 5\r\n", "Content-Length: x\r\n",
		"Transfer-Encoding: chunked\r\n", "transfer-encoding:CHUNKED\r\n", "Transfer-Encoding: gzip\r\n", "Trailer: T\r\n", "bad\r\n", " x: y\r\n", "\r\n", "X: 2")
	var all []string
	for _, start := range starts {
		for _, l := range lines {
			for _, host := range []string{"", "Host: h\r\n"} {
				for rest := range rests() {
					all = append(all, start+host+l+nl+rest)
				}
				all = append(all, start+host+l, start+host+l+nl+"ab", start+host+l+nl+"abc", start+host+l+"\r", start+host+l+"\n")
			}
		}
	}
	slices.Sort(all)
	checkAll(t, all, 8000)
}

func TestParsingNearGoodOnes(t *testing.T) {
	checkAll(t, slices.Concat(
		words(6, "GET / HTTP/1.0", "HTTP/1.1 200 ", "\r\n", "\r", "\n", "a:"),
		words(9, "\r\n", "\r", "\n"),
		near("GET /a HTTP/1.1\r\nHost: a\r\n\r\n"),
		near("POST / HTTP/1.0\r\nA: b\r\nContent-Length: 2, 2\r\n\r\nab"),
		near("P / HTTP/1.1\r\nHost:\r\nTransfer-Encoding: chunked\r\n\r\n2;x\r\n\r\n\r\n0\r\nT: v\r\n\r\n"),
		near("HTTP/1.1 200 OK\r\nContent-Length: 3\r\nTrailer: a\r\n\r\n\r\nx"),
		near("HTTP/1.1 304 x\r\nContent-Length: 9\r\nA: b\r\n\r\n"),
		near("HTTP/1.0 204 \r\n\r\n"),
		near("HTTP/1.1 500 a b\r\ntransfer-encoding: Chunked\r\n\r\n1\r\nx\r\n0\r\n\r\n"),
		near("HTTP/1.0 200 \r\na:\r\n\r\nrest\r\n\r\n")), 20000)
}

func TestParsingOfStrangeTexts(t *testing.T) {
	r := rand.New(rand.NewSource(12))
	parts := []string{"GET / HTTP/1.1", "POST", " ", "/", "HTTP/1.0", "HTTP/1.1 200 OK", "HTTP/1.1", "304", "204", "Host: a", "Host", ":", "Content-Length: 3", "Content-Length:", "Transfer-Encoding: chunked", "chunked", "Trailer: x", "1", "2", ",", "\"", "abc", "0\r\n\r\n", "\r", "\n", "\t", "\x00", "\xff"}
	starts := []string{"", "GET / HTTP/1.1\r\nHost: a\r\n", "PUT / HTTP/1.0\r\n", "HTTP/1.1 200 OK\r\n", "HTTP/1.0 500 x\r\n", "HTTP/1.1 304 x\r\n"}
	var all []string
	for range 50000 {
		s := starts[r.Intn(len(starts))]
		for range r.Intn(8) {
			if r.Intn(20) == 0 {
				s += one(r.Intn(256))
			}
			s += parts[r.Intn(len(parts))] + []string{"", nl, nl, nl + nl}[r.Intn(4)]
		}
		all = append(all, s, s+nl+nl, s+nl+nl+"abc")
	}
	checkAll(t, all, 5000)
}

// P12.4: Bodiless, and printing

func TestBodiless(t *testing.T) {
	for code := -1000; code <= 1000; code++ {
		if Bodiless(code) != (code == 204 || code == 304) {
			t.Errorf("Bodiless(%d) is %v", code, Bodiless(code))
		}
	}
	for _, code := range []int{math.MinInt, math.MaxInt, 204 + 1<<32, 304 - 1<<32, -204, -304, 204 << 32} {
		if Bodiless(code) {
			t.Errorf("Bodiless(%d) is true", code)
		}
	}
}

func TestPrintRequest(t *testing.T) {
	for want, r := range map[string]api.Request{
		"GET / HTTP/1.1\r\nHost: a\r\n\r\n":            {Method: "GET", Target: "/", Minor: 1, Fields: []api.Field{{Name: "Host", Value: "a"}}},
		"GET / HTTP/1.0\r\n\r\n":                       {Method: "GET", Target: "/"},
		"GET / HTTP/1.0\r\nContent-Length: 1\r\n\r\nx": {Method: "GET", Target: "/", Body: "x"},
		"p t HTTP/1.1\r\nB: 2\r\na: 1\r\nB: \r\nContent-Length: 12\r\n\r\n\r\n\r\n\x00\xff345678": {Method: "p", Target: "t", Minor: 1, Fields: []api.Field{{Name: "B", Value: "2"}, {Name: "a", Value: "1"}, {Name: "B"}}, Body: "\r\n\r\n\x00\xff345678"},
		"HEAD / HTTP/1.1\r\nContent-Length: 2\r\n\r\nab":                                          {Method: "HEAD", Target: "/", Minor: 1, Body: "ab"},
		// Also what no message may have is printed as it is.
		"  HTTP/1.0\r\n\r\n": {},
		"a\r\n  HTTP/1.-7\r\n: \r\nContent-Length: x\r\nContent-Length: 1\r\n\r\ny": {Method: "a\r\n", Minor: -7, Fields: []api.Field{{}, {Name: "Content-Length", Value: "x"}}, Body: "y"},
	} {
		if got := PrintRequest(r); got != want {
			t.Errorf("PrintRequest(%v) is %q, want %q", r, got, want)
		}
	}
	long := api.Request{Method: "GET", Target: "/", Fields: many(1000), Body: strings.Repeat("x", 1<<20)}
	if got := PrintRequest(long); got != "GET / HTTP/1.0\r\n"+strings.Repeat("x: y\r\n", 1000)+"Content-Length: 1048576\r\n\r\n"+long.Body {
		t.Errorf("a long request is printed with %d bytes", len(got))
	}
}

func TestPrintReply(t *testing.T) {
	a := []api.Field{{Name: "A", Value: "b"}}
	for _, x := range []struct {
		r          api.Reply
		full, bare string
	}{
		{api.Reply{Code: 200, Reason: "OK", Minor: 1, Body: "abc"}, "HTTP/1.1 200 OK\r\nContent-Length: 3\r\n\r\nabc", "HTTP/1.1 200 OK\r\nContent-Length: 3\r\n\r\n"},
		{api.Reply{Code: 200, Reason: "OK", Minor: 1}, "HTTP/1.1 200 OK\r\nContent-Length: 0\r\n\r\n", "HTTP/1.1 200 OK\r\n\r\n"},
		{api.Reply{Code: 404, Fields: a}, "HTTP/1.0 404 \r\nA: b\r\nContent-Length: 0\r\n\r\n", "HTTP/1.0 404 \r\nA: b\r\n\r\n"},
		{api.Reply{Code: 404, Fields: append(a, a...), Body: "\r\n"}, "HTTP/1.0 404 \r\nA: b\r\nA: b\r\nContent-Length: 2\r\n\r\n\r\n", "HTTP/1.0 404 \r\nA: b\r\nA: b\r\nContent-Length: 2\r\n\r\n"},
		{api.Reply{Code: 204, Reason: "x y", Minor: 1, Fields: a}, "HTTP/1.1 204 x y\r\nA: b\r\n\r\n", "HTTP/1.1 204 x y\r\nA: b\r\n\r\n"},
		{api.Reply{Code: 304, Minor: 1}, "HTTP/1.1 304 \r\n\r\n", "HTTP/1.1 304 \r\n\r\n"},
		{api.Reply{Code: 304, Minor: 1, Body: "abc"}, "HTTP/1.1 304 \r\n\r\n", "HTTP/1.1 304 \r\n\r\n"},
		{api.Reply{Code: 204, Minor: 1, Body: "abc"}, "HTTP/1.1 204 \r\n\r\n", "HTTP/1.1 204 \r\n\r\n"},
		{api.Reply{}, "HTTP/1.0 0 \r\nContent-Length: 0\r\n\r\n", "HTTP/1.0 0 \r\n\r\n"},
		{api.Reply{Code: -1, Reason: "\r\n", Minor: 12, Fields: []api.Field{{Name: "trailer", Value: " "}}, Body: "x"}, "HTTP/1.12 -1 \r\n\r\ntrailer:  \r\nContent-Length: 1\r\n\r\nx", "HTTP/1.12 -1 \r\n\r\ntrailer:  \r\nContent-Length: 1\r\n\r\n"},
	} {
		if got := PrintReply(x.r, false); got != x.full {
			t.Errorf("PrintReply(%v, false) is %q, want %q", x.r, got, x.full)
		}
		if got := PrintReply(x.r, true); got != x.bare {
			t.Errorf("PrintReply(%v, true) is %q, want %q", x.r, got, x.bare)
		}
	}
}

// P12.4: checking

func checkRequests(t *testing.T, r api.Request, want api.Errno) {
	t.Helper()
	if got := CheckRequest(r); got != want {
		t.Errorf("CheckRequest(%.100q, %.100q, %d, %.100q, %d bytes) is %d, want %d", r.Method, r.Target, r.Minor, r.Fields, len(r.Body), got, want)
	}
}

func checkReplies(t *testing.T, r api.Reply, want api.Errno) {
	t.Helper()
	if got := CheckReply(r); got != want {
		t.Errorf("CheckReply(%d, %.100q, %d, %.100q, %d bytes) is %d, want %d", r.Code, r.Reason, r.Minor, r.Fields, len(r.Body), got, want)
	}
}

func TestCheckOfFirstLines(t *testing.T) {
	good := api.Request{Method: "GET", Target: "/", Minor: 0}
	checkRequests(t, good, 0)
	for c := range 256 {
		isMethod, isTarget := strings.Contains(tokens, one(c)), c >= 33 && c <= 126
		for _, s := range []string{one(c), "G" + one(c), one(c) + "G", "G" + one(c) + "T"} {
			r := good
			r.Method = s
			checkRequests(t, r, map[bool]api.Errno{true: 0, false: docErrLine}[isMethod])
			r = good
			r.Target = s
			checkRequests(t, r, map[bool]api.Errno{true: 0, false: docErrLine}[isTarget])
			reason := api.Reply{Code: 200, Reason: s}
			checkReplies(t, reason, map[bool]api.Errno{true: 0, false: docErrLine}[isText(s)])
		}
	}
	for _, r := range []api.Request{{}, {Method: "GET"}, {Target: "/"}, {Method: "GET /", Target: "x"}, {Method: "GET", Target: "/ HTTP/1.0"}, {Method: "GET", Target: " /"}, {Method: "GET", Target: "/ "}, {Method: "GET", Target: "/\r\nX: y"}, {Method: "G\u00e4T", Target: "/"}, {Method: "GET", Target: "/\u00e4"}} {
		checkRequests(t, r, docErrLine)
	}
	for _, minor := range []int{-1, 2, 3, 9, 10, 11, 100, 256, 1 << 32, 1<<32 + 1, math.MaxInt, math.MinInt} {
		checkRequests(t, api.Request{Method: "GET", Target: "/", Minor: minor}, docErrLine)
		checkReplies(t, api.Reply{Code: 200, Minor: minor}, docErrLine)
	}
	for code := -1000; code <= 2000; code++ {
		want := api.Errno(docErrLine)
		if code >= 200 && code <= 599 {
			want = 0
		}
		checkReplies(t, api.Reply{Code: code}, want)
		checkReplies(t, api.Reply{Code: code, Minor: 1, Reason: "a b \t"}, want)
	}
	for _, code := range []int{math.MaxInt, math.MinInt, 200 + 1<<32, 20000, -200} {
		checkReplies(t, api.Reply{Code: code}, docErrLine)
	}
	for _, reason := range []string{"", " ", "\t", " OK ", "200 OK", "\xff\x80", "\u00e4", "\"(:"} {
		checkReplies(t, api.Reply{Code: 200, Reason: reason}, 0)
	}
	for _, reason := range []string{"\r\n", "OK\r\nX: y", "OK\n", "\x00", "a\x7f"} {
		checkReplies(t, api.Reply{Code: 200, Reason: reason}, docErrLine)
	}
}

func TestCheckOfLongFirstLines(t *testing.T) {
	for _, n := range []int{8191, 8192, 8193, 10000, 1 << 17} {
		want := api.Errno(0)
		if n > 8192 {
			want = docErrLine
		}
		text := strings.Repeat("x", n)
		checkRequests(t, api.Request{Method: "GET", Target: text[len("GET  HTTP/1.0"):]}, want)
		checkRequests(t, api.Request{Method: text[len(" / HTTP/1.0"):], Target: "/"}, want)
		checkReplies(t, api.Reply{Code: 200, Reason: text[len("HTTP/1.1 200 "):]}, want)
	}
}

func TestCheckOfFields(t *testing.T) {
	host := api.Field{Name: "Host", Value: "a"}
	check := func(want api.Errno, l ...api.Field) {
		t.Helper()
		for _, all := range [][]api.Field{append([]api.Field{host}, l...), append(slices.Clone(l), host)} {
			checkRequests(t, api.Request{Method: "GET", Target: "/", Minor: 1, Fields: all}, want)
			checkReplies(t, api.Reply{Code: 200, Minor: 1, Fields: all}, want)
			checkReplies(t, api.Reply{Code: 304, Minor: 1, Fields: all}, want)
		}
	}
	check(0)
	check(0, api.Field{Name: "X"}, api.Field{Name: "x", Value: "a\tb  c,\"\xff"}, api.Field{Name: tokens, Value: tokens})
	for _, f := range []api.Field{{}, {Value: "x"}, {Name: " x"}, {Name: "x "}, {Name: "x:"}, {Name: "x\r\ny"}, {Name: "\u00e4"}, {Name: "x", Value: " "}, {Name: "x", Value: " y"}, {Name: "x", Value: "y\t"}, {Name: "x", Value: "y\r\nz: 1"}, {Name: "x", Value: "\x00"}, {Name: "x", Value: "\x7f"}, {Name: "x", Value: "y\n"}} {
		check(docErrField, f)
		check(docErrField, api.Field{Name: "y"}, f)
		// The form of a field counts ahead of the length of another one.
		check(docErrField, api.Field{Name: "y", Value: strings.Repeat("y", 9000)}, f)
	}
	for _, name := range []string{"Content-Length", "Transfer-Encoding", "Trailer", "content-length", "TRANSFER-ENCODING", "tRAILER"} {
		for _, value := range []string{"", "0", "chunked"} {
			check(docErrField, api.Field{Name: name, Value: value})
			check(docErrField, api.Field{Name: "x"}, api.Field{Name: name, Value: value})
			check(docErrLong, api.Field{Name: "y", Value: strings.Repeat("y", 9000)}, api.Field{Name: name, Value: value})
		}
	}
	for _, name := range []string{"Content-Lengths", "Content", "Length", "ContentLength", "Transfer-Encodin", "TE", "Trailers", "Traile", "Content_Length", "Connection", "Content-Encoding"} {
		check(0, api.Field{Name: name, Value: "0"})
	}
	for _, n := range []int{8191, 8192, 8193, 9000} {
		want := api.Errno(0)
		if n > 8192 {
			want = docErrLong
		}
		check(want, api.Field{Name: "x", Value: strings.Repeat("y", n-3)})
		check(want, api.Field{Name: strings.Repeat("y", n-2)})
	}
}

func TestCheckOfHosts(t *testing.T) {
	host := []api.Field{{Name: "Host", Value: "a"}}
	for _, x := range []struct {
		l    []api.Field
		want [2]api.Errno
	}{
		{nil, [2]api.Errno{0, docErrHost}},
		{many(3), [2]api.Errno{0, docErrHost}},
		{host, [2]api.Errno{0, 0}},
		{[]api.Field{{Name: "hOST"}}, [2]api.Errno{0, 0}},
		{append(many(3), host...), [2]api.Errno{0, 0}},
		{append(slices.Clone(host), host...), [2]api.Errno{docErrHost, docErrHost}},
		{append(slices.Clone(host), api.Field{Name: "host"}), [2]api.Errno{docErrHost, docErrHost}},
		{slices.Repeat(host, 64), [2]api.Errno{docErrHost, docErrHost}},
	} {
		for minor, want := range x.want {
			checkRequests(t, api.Request{Method: "GET", Target: "/", Minor: minor, Fields: x.l}, want)
			// The host counts ahead of the length.
			if want != 0 {
				checkRequests(t, api.Request{Method: "GET", Target: "/", Minor: minor, Fields: x.l, Body: strings.Repeat("x", 65536)}, want)
			}
			checkReplies(t, api.Reply{Code: 304, Minor: minor, Fields: x.l}, 0)
		}
	}
}

func TestCheckOfBodies(t *testing.T) {
	for code := 200; code <= 599; code++ {
		for _, body := range []string{"", "x", nl, strings.Repeat("x", 65536)} {
			want := api.Errno(0)
			switch {
			case body != "" && (code == 204 || code == 304):
				want = docErrFraming
			case len(body) > 60000:
				want = docErrLong
			}
			checkReplies(t, api.Reply{Code: code, Body: body}, want)
		}
	}
	// The fields count ahead of the body, and the body ahead of the number of lines.
	checkReplies(t, api.Reply{Code: 304, Fields: many(65), Body: "x"}, docErrLong)
	checkReplies(t, api.Reply{Code: 304, Fields: many(64), Body: "x"}, docErrFraming)
	checkReplies(t, api.Reply{Code: 304, Fields: []api.Field{{Name: "Trailer"}}, Body: "x"}, docErrField)
	checkReplies(t, api.Reply{Code: 604, Fields: []api.Field{{Name: "Trailer"}}, Body: "x"}, docErrLine)
	checkRequests(t, api.Request{Method: "GET", Target: "/", Minor: 2, Fields: many(65), Body: "x"}, docErrLine)
}

func TestCheckOfNumbersOfLines(t *testing.T) {
	for _, n := range []int{0, 1, 62, 63, 64, 65, 66, 1000} {
		over := func(lines int) api.Errno {
			if lines > 64 {
				return docErrLong
			}
			return 0
		}
		for _, body := range []string{"x", strings.Repeat("\r\n", 100)} {
			checkRequests(t, api.Request{Method: "GET", Target: "/", Fields: many(n)}, over(n))
			checkRequests(t, api.Request{Method: "GET", Target: "/", Fields: many(n), Body: body}, over(n+1))
			checkReplies(t, api.Reply{Code: 200, Fields: many(n)}, over(n+1))
			checkReplies(t, api.Reply{Code: 200, Fields: many(n), Body: body}, over(n+1))
			checkReplies(t, api.Reply{Code: 204, Fields: many(n)}, over(n))
			checkReplies(t, api.Reply{Code: 304, Fields: many(n)}, over(n))
		}
	}
	// A framing field counts ahead of their number, but not beside too many fields.
	checkRequests(t, api.Request{Method: "GET", Target: "/", Fields: append(many(63), api.Field{Name: "Trailer"}), Body: "x"}, docErrField)
	checkRequests(t, api.Request{Method: "GET", Target: "/", Fields: append(many(64), api.Field{Name: "Trailer"})}, docErrLong)
}

func TestCheckOfLengths(t *testing.T) {
	long := slices.Repeat([]api.Field{{Name: "x", Value: strings.Repeat("y", 8000)}}, 8)
	line := len("x: \r\n") + 8000
	for n := 65530; n <= 65543; n++ {
		want := api.Errno(0)
		if n > 65536 {
			want = docErrLong
		}
		// A body that fills a message up to n bytes, and a head that does so alone.
		for _, r := range []api.Request{
			{Method: "GET", Target: "/", Body: strings.Repeat("b", n-len("GET / HTTP/1.0\r\nContent-Length: 12345\r\n\r\n"))},
			{Method: "GET", Target: "/", Fields: many(60), Body: strings.Repeat("b", n-len("GET / HTTP/1.0\r\nContent-Length: 12345\r\n\r\n")-60*len("x: y\r\n"))},
			{Method: "GET", Target: "/", Fields: long, Body: strings.Repeat("b", n-len("GET / HTTP/1.0\r\nContent-Length: 1234\r\n\r\n")-8*line)},
			{Method: "GET", Target: "/", Fields: append(slices.Clone(long), api.Field{Name: "x", Value: strings.Repeat("y", n-len("GET / HTTP/1.0\r\nx: \r\n\r\n")-8*line)})},
		} {
			if got := len(PrintRequest(r)); got != n {
				t.Errorf("a request is printed with %d bytes, not with %d", got, n)
			}
			checkRequests(t, r, want)
		}
		for _, r := range []api.Reply{
			{Code: 200, Reason: "OK", Body: strings.Repeat("b", n-len("HTTP/1.0 200 OK\r\nContent-Length: 12345\r\n\r\n"))},
			{Code: 200, Fields: many(60), Body: strings.Repeat("b", n-len("HTTP/1.0 200 \r\nContent-Length: 12345\r\n\r\n")-60*len("x: y\r\n"))},
			{Code: 200, Fields: append(slices.Clone(long), api.Field{Name: "x", Value: strings.Repeat("y", n-len("HTTP/1.0 200 \r\nContent-Length: 0\r\nx: \r\n\r\n")-8*line)})},
			{Code: 304, Fields: append(slices.Clone(long), api.Field{Name: "x", Value: strings.Repeat("y", n-len("HTTP/1.0 304 \r\nx: \r\n\r\n")-8*line)})},
		} {
			if got := len(PrintReply(r, false)); got != n {
				t.Errorf("a reply is printed with %d bytes, not with %d", got, n)
			}
			checkReplies(t, r, want)
		}
	}
}

// P12.4 and P12.5, over many messages.

// someFields answers fields of all kinds.
func someFields(r *rand.Rand) []api.Field {
	names := []string{"Host", "Host", "host", "X", "a-b", "Content-Length", "Trailer", "transfer-encoding", "TE", "", "a b", "\x00", "!"}
	values := []string{"", "a", "a b", "0", "chunked", "1, 2", "\xff\t\x80", " a", "a ", "a\r\nb", "\x7f", strings.Repeat("v", 8000), strings.Repeat("v", 8190)}
	pick := func(l []string, good int) string {
		if r.Intn(20) > 0 {
			return l[r.Intn(good)]
		}
		return l[r.Intn(len(l))]
	}
	var l []api.Field
	n := r.Intn(6)
	if r.Intn(10) == 0 {
		n = 60 + r.Intn(6)
	}
	for i := range n {
		name := "Host"
		if i > 0 || r.Intn(3) == 0 {
			name = pick(names[3:], 2)
		}
		l = append(l, api.Field{Name: name, Value: pick(values, 7)})
	}
	if r.Intn(30) == 0 {
		l = append(l, api.Field{Name: names[r.Intn(len(names))], Value: "q"})
	}
	return l
}

// someBody answers a body of any length, also beyond what a message may have.
func someBody(r *rand.Rand) string {
	n := []int{0, 0, 1, 2, 20, 300, 65400, 65536}[r.Intn(8)]
	b := make([]byte, n+r.Intn(1+n/200))
	for i := range b {
		b[i] = "\r\n0aX: \xff"[r.Intn(8)]
	}
	return string(b)
}

// sameRequest tells whether two requests are equal, names as written.
func sameRequest(a, b api.Request) bool {
	return a.Method == b.Method && a.Target == b.Target && a.Minor == b.Minor && slices.Equal(a.Fields, b.Fields) && a.Body == b.Body
}

// sameReply tells whether two replies are.
func sameReply(a, b api.Reply) bool {
	return a.Code == b.Code && a.Reason == b.Reason && a.Minor == b.Minor && slices.Equal(a.Fields, b.Fields) && a.Body == b.Body
}

func TestRequestsAreReadBack(t *testing.T) {
	r := rand.New(rand.NewSource(13))
	codes := map[api.Errno]int{}
	for range 6000 {
		x := api.Request{
			Method: []string{"GET", "POST", "HEAD", "get", "a~!", "GET", "PUT", "", "a b", "\xff"}[r.Intn(10-3*min(1, r.Intn(5)))],
			Target: []string{"/", "*", "/a?b#c", "http://a:1/", "\"~", "/", "/a b", "", "/\x7f", strings.Repeat("t", 8192)}[r.Intn(10-4*min(1, r.Intn(5)))],
			Minor:  []int{1, 1, 0, 2}[r.Intn(4-min(1, r.Intn(5)))],
			Fields: someFields(r),
			Body:   someBody(r),
		}
		want := toldCheckRequest(x)
		codes[want]++
		checkRequests(t, x, want)
		printed := PrintRequest(x)
		if told := toldPrintRequest(x); printed != told {
			t.Fatalf("PrintRequest(%.200v) is %.200v, want %.200q", x, printed, told)
		}
		if want != 0 {
			continue
		}
		if back, e := ParseRequest(printed); e != 0 || !sameRequest(back, x) {
			t.Fatalf("ParseRequest(%.200v) is %.200v, %d", printed, back, e)
		}
	}
	for _, code := range []api.Errno{0, docErrLine, docErrField, docErrHost, docErrLong} {
		if codes[code] < 100 {
			t.Errorf("only %d of the requests are checked with %d", codes[code], code)
		}
	}
}

func TestRepliesAreReadBack(t *testing.T) {
	r := rand.New(rand.NewSource(14))
	codes := map[api.Errno]int{}
	for range 6000 {
		x := api.Reply{
			Code:   []int{200, 204, 304, 404, 599, 203, 205, 500, 199, 600, 0, -200}[r.Intn(12-4*min(1, r.Intn(5)))],
			Reason: []string{"OK", "", "a b", " \t", "\xff", "a\r\nb", "\x00", strings.Repeat("t", 8192)}[r.Intn(8-3*min(1, r.Intn(5)))],
			Minor:  []int{1, 1, 0, 2}[r.Intn(4-min(1, r.Intn(5)))],
			Fields: someFields(r),
			Body:   someBody(r),
		}
		want := toldCheckReply(x)
		codes[want]++
		checkReplies(t, x, want)
		full, bare := PrintReply(x, false), PrintReply(x, true)
		if full != toldPrintReply(x, false) || bare != toldPrintReply(x, true) {
			t.Fatalf("PrintReply(%.200v) is %.200q and %.200q", x, full, bare)
		}
		if want != 0 {
			continue
		}
		if back, e := ParseReply(full, "GET"); e != 0 || !sameReply(back, x) {
			t.Fatalf("ParseReply(%.200v) is %.200v, %d", full, back, e)
		}
		x.Body = ""
		if back, e := ParseReply(bare, "HEAD"); e != 0 || !sameReply(back, x) {
			t.Fatalf("ParseReply(%.200q) to HEAD is %.200v, %d", bare, back, e)
		}
	}
	for _, code := range []api.Errno{0, docErrLine, docErrField, docErrFraming, docErrLong} {
		if codes[code] < 100 {
			t.Errorf("only %d of the replies are checked with %d", codes[code], code)
		}
	}
}

// Messages as great as they may be are read back as well.
func TestGreatMessagesAreReadBack(t *testing.T) {
	long := slices.Repeat([]api.Field{{Name: "x", Value: strings.Repeat("y", 8189)}}, 7)
	for _, x := range []api.Request{
		{Method: "GET", Target: strings.Repeat("t", 8192-len("GET  HTTP/1.0"))},
		{Method: "GET", Target: "/", Fields: many(64)},
		{Method: "GET", Target: "/", Fields: many(63), Body: strings.Repeat("\r\n", 32000)},
		{Method: "GET", Target: "/", Fields: long, Body: strings.Repeat("b", 8000)},
		{Method: "GET", Target: "/", Body: strings.Repeat("b", 65536-len("GET / HTTP/1.0\r\nContent-Length: 12345\r\n\r\n"))},
	} {
		checkRequests(t, x, 0)
		if back, e := ParseRequest(PrintRequest(x)); e != 0 || !sameRequest(back, x) {
			t.Errorf("a great request is not read back: %d", e)
		}
	}
	for _, x := range []api.Reply{
		{Code: 200, Reason: strings.Repeat("t", 8192-len("HTTP/1.0 200 "))},
		{Code: 200, Fields: many(63), Body: strings.Repeat("\r\n", 32000)},
		{Code: 304, Fields: many(64)},
		{Code: 404, Minor: 1, Fields: long, Body: strings.Repeat("b", 8000)},
		{Code: 200, Body: strings.Repeat("b", 65536-len("HTTP/1.0 200 \r\nContent-Length: 12345\r\n\r\n"))},
	} {
		checkReplies(t, x, 0)
		if back, e := ParseReply(PrintReply(x, false), "GET"); e != 0 || !sameReply(back, x) {
			t.Errorf("a great reply is not read back: %d", e)
		}
	}
}

// R1: great inputs, which end soon.

func TestGreatInputs(t *testing.T) {
	for _, part := range []string{"x", "\r\n", "\r", "\n", "\x00", "a: b\r\n", "Content-Length: 1\r\n", ",", "GET / HTTP/1.1\r\n\r\n"} {
		raw := strings.Repeat(part, 1<<19)
		checkRequest(t, raw, parts{code: docErrLong})
		checkReply(t, raw, "GET", parts{code: docErrLong})
		checkReply(t, "HTTP/1.1 200 OK\r\n\r\n", raw, parts{status: 200, reason: "OK", minor: 1})
		checkRequests(t, api.Request{Method: "GET", Target: "/", Body: raw}, docErrLong)
		checkRequests(t, api.Request{Method: "GET", Target: raw + " "}, docErrLine)
		checkReplies(t, api.Reply{Code: 200, Body: raw}, docErrLong)
		checkReplies(t, api.Reply{Code: 200, Reason: raw}, docErrLine)
		raw = "HTTP/1.1 200 OK\r\n" + strings.Repeat("Content-Length: "+strings.Repeat("1,", 500)+nl, 60) + "\r\nx"
		checkReply(t, raw, "GET", parts{status: 200, reason: "OK", minor: 1, body: "x"})
	}
	checkRequests(t, api.Request{Method: "GET", Target: "/", Fields: many(1 << 20)}, docErrLong)
	checkReplies(t, api.Reply{Code: 200, Fields: many(1 << 20)}, docErrLong)
}

// R3: no argument is changed, not even behind its end.
func TestArgumentsStay(t *testing.T) {
	whole := []api.Field{{Name: "Host", Value: "a"}, {Name: "x", Value: "y"}, {Name: "behind", Value: "1"}, {Name: "behind", Value: "2"}}
	l := slices.Clone(whole)
	for n := range len(l) + 1 {
		r, p := api.Request{Method: "GET", Target: "/", Fields: l[:n], Body: "x"}, api.Reply{Code: 200, Fields: l[:n], Body: "x"}
		PrintRequest(r)
		CheckRequest(r)
		PrintReply(p, false)
		PrintReply(p, true)
		CheckReply(p)
		if !slices.Equal(l, whole) {
			t.Fatalf("with %d fields, the list has become %v", n, l)
		}
	}
}
