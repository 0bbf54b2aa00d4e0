package target

import (
	"fmt"
	"math"
	"math/rand"
	"regexp"
	"strings"
	"testing"

	"depot/api"
)

// The numbers and bytes that the document names, written out, so that a test
// does not lean on the constants that the package uses.
const (
	docErrLong   = 4
	docErrTarget = 23
	docErrHost   = 26
	maxText      = 8192
	maxKey       = 255
	alnum        = "0123456789ABCDEFGHIJKLMNOPQRSTUVWXYZabcdefghijklmnopqrstuvwxyz"
	ofHosts      = alnum + "-."
	ofPlain      = alnum + "-._~"
	ofPaths      = ofPlain + "!$&'()*+,;=:@/"
)

// one answers the text of a single byte.
func one(c int) string {
	return string([]byte{byte(c)})
}

// has tells whether a byte is one of a text's.
func has(s string, c int) bool {
	return strings.IndexByte(s, byte(c)) >= 0
}

// words answers all texts of at most most pieces.
func words(most int, pieces ...string) []string {
	all := []string{""}
	last := all
	for range most {
		var next []string
		for _, w := range last {
			for _, p := range pieces {
				next = append(next, w+p)
			}
		}
		all = append(all, next...)
		last = next
	}
	return all
}

func checkAuthority(t *testing.T, s, host string, port int) {
	t.Helper()
	if h, p, e := Authority(s); h != host || p != port || e != 0 {
		t.Errorf("Authority(%q) is %q, %d, %d, want %q, %d", s, h, p, e, host, port)
	}
}

func checkNoAuthority(t *testing.T, s string) {
	t.Helper()
	if h, p, e := Authority(s); h != "" || p != 0 || e != docErrHost {
		t.Errorf("Authority(%q) is %q, %d, %d, want none", s, h, p, e)
	}
}

func checkPath(t *testing.T, s, want string) {
	t.Helper()
	if p, e := Path(s); p != want || e != 0 {
		t.Errorf("Path(%q) is %q, %d, want %q", s, p, e, want)
	}
}

func checkNoPath(t *testing.T, s string, code api.Errno) {
	t.Helper()
	if p, e := Path(s); p != "" || e != code {
		t.Errorf("Path(%q) is %q, %d, want %d", s, p, e, code)
	}
}

func checkParse(t *testing.T, s, host string, want api.URI) {
	t.Helper()
	if u, e := Parse(s, host); u != want || e != 0 {
		t.Errorf("Parse(%q, %q) is %v, %d, want %v", s, host, u, e, want)
	}
}

func checkNoParse(t *testing.T, s, host string, code api.Errno) {
	t.Helper()
	if u, e := Parse(s, host); u != (api.URI{}) || e != code {
		t.Errorf("Parse(%q, %q) is %v, %d, want %d", s, host, u, e, code)
	}
}

// P8.1

func TestAuthority(t *testing.T) {
	for _, x := range []struct {
		s, host string
		port    int
	}{
		{"a", "a", 80},
		{"A", "a", 80},
		{"Ex.com", "ex.com", 80},
		{"Ex.com:80", "ex.com", 80},
		{"ex.com:", "ex.com", 80},
		{"ex.com:8080", "ex.com", 8080},
		{"EXAMPLE.ORG:443", "example.org", 443},
		{"127.0.0.1:1", "127.0.0.1", 1},
		{"a:65535", "a", 65535},
		{"a:00080", "a", 80},
		{"a:00001", "a", 1},
		{"a:08080", "a", 8080},
		{"a:01", "a", 1},
		{"-", "-", 80},
		{".", ".", 80},
		{"..", "..", 80},
		{"a-b.c-D.", "a-b.c-d.", 80},
		{"0", "0", 80},
		{"80", "80", 80},
		{"80:81", "80", 81},
	} {
		checkAuthority(t, x.s, x.host, x.port)
	}
}

func TestNoAuthority(t *testing.T) {
	for _, s := range []string{
		"", ":", ":80", ":0", "::", "::1", "[::1]", "[::1]:80",
		"a:0", "a:00000", "a:65536", "a:99999", "a:100000", "a:000080", "a:065535", "a:0000000080",
		"a:4294967376", "a:18446744073709551696", "a:999999999999999999", "a:" + strings.Repeat("9", 100),
		"a:b", "a:8o", "a:0x50", "a:8 0", "a: 80", "a:80 ", "a:+80", "a:-80", "a:-1", "a:8.0", "a:80/", "a:\uff18",
		"a::", "a::80", "a:80:", "a:80:80", "a:b:c", "a:80:b",
		"a b", " a", "a ", "\ta", "a\n", "a_b", "a/b", "a/", "a?", "a#", "a%", "%41", "a,b", "u@a", "u:p@a:80",
		"a\x00", "\x00", "\x80", "\xff", "\u00e4", "\u212a", "a*", "*", "a~", "a+b", "http://a", "a\\", "a\r\n",
	} {
		checkNoAuthority(t, s)
	}
}

// Each byte alone, ahead, within and behind, without and with a port.
func TestHostOfEachByte(t *testing.T) {
	for c := range 256 {
		for _, s := range []string{one(c), one(c) + "b", "b" + one(c) + "b", "b" + one(c)} {
			if c == ':' {
				continue
			}
			if !has(ofHosts, c) {
				checkNoAuthority(t, s)
				checkNoAuthority(t, s+":81")
				continue
			}
			want := s
			if c >= 'A' && c <= 'Z' {
				want = strings.ReplaceAll(s, one(c), one(c+32))
			}
			checkAuthority(t, s, want, 80)
			checkAuthority(t, s+":", want, 80)
			checkAuthority(t, s+":81", want, 81)
		}
	}
}

func TestHostLengths(t *testing.T) {
	for _, part := range []string{"a", "Z", ".", "-", "9"} {
		for _, port := range []string{"", ":", ":80", ":00080"} {
			checkNoAuthority(t, port)
			for _, n := range []int{1, 2, 63, 64, 127, 128, 252, 253} {
				s := strings.Repeat(part, n)
				checkAuthority(t, s+port, strings.ToLower(s), 80)
			}
			for _, n := range []int{254, 255, 256, 257, 509, 1 << 16, 1<<16 + 1} {
				checkNoAuthority(t, strings.Repeat(part, n)+port)
			}
		}
	}
	label := strings.Repeat("a", 63)
	long := label + "." + label + "." + label + "." + strings.Repeat("b", 61)
	checkAuthority(t, long+":65535", long, 65535)
	checkNoAuthority(t, long+"b:65535")
}

// All numbers of up to six digits, with up to as many noughts ahead.
func TestPorts(t *testing.T) {
	for n := range 100001 {
		for width := 1; width <= 7; width++ {
			digits := fmt.Sprintf("%0*d", width, n)
			if n < 1 || n > 65535 || len(digits) > 5 {
				checkNoAuthority(t, "h:"+digits)
				continue
			}
			checkAuthority(t, "h:"+digits, "h", n)
		}
	}
}

func TestPortOfEachByte(t *testing.T) {
	for c := range 256 {
		for i, s := range []string{one(c), one(c) + "1", "1" + one(c), "1" + one(c) + "1", "1111" + one(c)} {
			if c < '0' || c > '9' || s == "0" {
				checkNoAuthority(t, "h:"+s)
				continue
			}
			n := c - '0'
			checkAuthority(t, "h:"+s, "h", []int{n, 10*n + 1, 10 + n, 101 + 10*n, 11110 + n}[i])
		}
	}
}

// P8.2: what a path may consist of

func TestPath(t *testing.T) {
	for s, want := range map[string]string{
		"/":                           "/",
		"/a":                          "/a",
		"/a/":                         "/a/",
		"/a/b/c":                      "/a/b/c",
		"/A/b":                        "/A/b",
		"/a/./b/../c%7e%2f?x=%2e":     "/a/c~%2F?x=.",
		"/?":                          "/?",
		"/?x":                         "/?x",
		"/a?b=c&d=e":                  "/a?b=c&d=e",
		"/a??":                        "/a??",
		"/a?b?c":                      "/a?b?c",
		"/a?/":                        "/a?/",
		"/" + ofPaths + "?" + ofPaths: "/" + ofPaths + "?" + ofPaths,
		"/" + ofPaths + "??":          "/" + ofPaths + "??",
		"//":                          "//",
		"///":                         "///",
		"/%41%5a%61%7A%30%39":         "/AZaz09",
		"/%2D%2e%5F%7e":               "/-._~",
		"/%2d/%2E%2Ea":                "/-/..a",
		"/%25":                        "/%25",
		"/%2541":                      "/%2541",
		"/%25%34%31":                  "/%2541",
		"/%2525":                      "/%2525",
		"/%2f%2F":                     "/%2F%2F",
		"/%3f?%3f":                    "/%3F?%3F",
		"/a%20b":                      "/a%20b",
		"/%c3%a4":                     "/%C3%A4",
		"/%00%ff":                     "/%00%FF",
		"/a?%41=%7e&%2F":              "/a?A=~&%2F",
	} {
		checkPath(t, s, want)
	}
}

func TestNoPath(t *testing.T) {
	for _, s := range []string{
		"", "a", "?", "?a", "a/", "a/b", ".", "..", "./", "../a", "*", "%2f", "%2F/a", " /", "\x00/", "\\", "~/",
		"http://a/", "#", "/#", "/a#b", "/a?b#c", "/ ", "/a b", "/a?b c", "/\t", "/a\n", "/a?\r", "/\x00", "/?\x00",
		"/\"", "/<", "/>", "/[", "/]", "/[]", "/\\", "/^", "/`", "/{", "/|", "/}", "/\x7f", "/\x80", "/\xff",
		"/?[", "/?\\", "/?^", "/?`", "/?{", "/?|", "/?}", "/?\x7f", "/?\x80", "/?\xff", "/\u00e4", "/?\u212a",
		"/%", "/%4", "/%g", "/%4g", "/%g4", "/%%", "/%%41", "/%%34%31", "/%4%41", "/% 41", "/%+1", "/%-1", "/%0x41", "/%4/1",
		"/%/", "/%2/", "/%2", "/a%", "/a%2", "/a/%41%", "/a/%41%4",
		"/%?", "/%?41", "/%4?1", "/a%?b", "/a%4?b",
		"/?%", "/?%4", "/?%g", "/?%4g", "/?%g4", "/?a%", "/?a%2", "/?%%41", "/?%4?1", "/?%?", "/a?%41%", "/a?%41%4",
		"/./ ", "/a/../ ", "/ /..", "/ /../a", "/%/../a", "/\x80/..",
	} {
		checkNoPath(t, s, docErrTarget)
	}
}

func TestPathOfEachByte(t *testing.T) {
	for c := range 256 {
		for _, s := range []string{"/" + one(c), "/" + one(c) + "x", "/x" + one(c) + "x", "/x/" + one(c)} {
			switch {
			case s == "/.":
				checkPath(t, s, "/")
			case s == "/x/.":
				checkPath(t, s, "/x/")
			case has(ofPaths, c) || c == '?':
				checkPath(t, s, s)
			default:
				checkNoPath(t, s, docErrTarget)
			}
		}
		for _, s := range []string{"/?" + one(c), "/?" + one(c) + "x", "/x?x" + one(c) + "x", "/x/?x" + one(c)} {
			if has(ofPaths, c) || c == '?' {
				checkPath(t, s, s)
			} else {
				checkNoPath(t, s, docErrTarget)
			}
		}
		if c != '/' {
			checkNoPath(t, one(c), docErrTarget)
			checkNoPath(t, one(c)+"/", docErrTarget)
			checkNoPath(t, one(c)+"a", docErrTarget)
		}
	}
}

// P8.2: lengths

func TestPathLengths(t *testing.T) {
	for _, n := range []int{1, 2, 255, 256, 8190, 8191, 8192} {
		for _, x := range []string{"a", "/", "~", "?"} {
			s := "/" + strings.Repeat(x, n-1)
			checkPath(t, s, s)
		}
	}
	for _, n := range []int{8193, 8194, 8195, 16384, 1 << 16, 1<<16 + 1, 1 << 20} {
		for _, x := range []string{"a", "/", "~", "?", ".", "%", " ", "\x80", "\x00"} {
			checkNoPath(t, "/"+strings.Repeat(x, n-1), docErrLong)
			checkNoPath(t, strings.Repeat(x, n), docErrLong)
		}
	}
	checkNoPath(t, strings.Repeat("a", maxText), docErrTarget)
	checkNoPath(t, "/"+strings.Repeat(" ", maxText-1), docErrTarget)
}

// It is the length ahead of all changes that counts.
func TestPathLengthsOfWhatIsChanged(t *testing.T) {
	for _, x := range []struct{ part, plain string }{
		{"%41", "A"}, {"%2f", "%2F"}, {"%2E%2e/", ""}, {"./", ""}, {"../", ""},
	} {
		n := (maxText - 1) / len(x.part)
		s := "/" + strings.Repeat(x.part, n)
		for len(s) < maxText {
			s += "b"
		}
		want := "/" + strings.Repeat(x.plain, n) + s[1+n*len(x.part):]
		checkPath(t, s, want)
		checkNoPath(t, s+"b", docErrLong)
		checkNoPath(t, s+"/../..", docErrLong)
		checkNoPath(t, "/"+s, docErrLong)
	}
	long := "/" + strings.Repeat("a", 8186)
	checkPath(t, long+"/../b", "/b")
	checkNoPath(t, long+"/../bc", docErrLong)
	checkPath(t, long+"?bcde", long+"?bcde")
	checkNoPath(t, long+"?bcdef", docErrLong)
}

// P8.2: escapes

// hexes answers the forms of a byte's two digits: each in both cases.
func hexes(c int) []string {
	small, great := fmt.Sprintf("%02x", c), fmt.Sprintf("%02X", c)
	return []string{small, great, small[:1] + great[1:], great[:1] + small[1:]}
}

func TestEachEscape(t *testing.T) {
	for c := range 256 {
		plain := fmt.Sprintf("%%%02X", c)
		if has(ofPlain, c) {
			plain = one(c)
		}
		for _, digits := range hexes(c) {
			for _, s := range []string{"/x@", "/@x", "/x@/y", "/x?@", "/?@x", "/?@", "/?x@/y", "/x@@", "/x%41@%2f"} {
				want := strings.NewReplacer("@", plain, "%41", "A", "%2f", "%2F").Replace(s)
				checkPath(t, strings.ReplaceAll(s, "@", "%"+digits), want)
			}
		}
	}
}

// All two bytes behind a percent sign.
func TestTwoBytesOfEscapes(t *testing.T) {
	const hex = "0123456789abcdefABCDEF"
	for high := range 256 {
		for low := range 256 {
			two := one(high) + one(low)
			_, inPath := Path("/%" + two)
			_, inQuery := Path("/?%" + two + "x")
			want := api.Errno(docErrTarget)
			if has(hex, high) && has(hex, low) {
				want = 0
			}
			if inPath != want || inQuery != want {
				t.Fatalf("an escape with %q is %d in a path and %d in a query", two, inPath, inQuery)
			}
		}
	}
}

// A byte that is made plain is not read again.
func TestEscapesAreReadOnce(t *testing.T) {
	for c := range 256 {
		small, great := fmt.Sprintf("%02x", c), fmt.Sprintf("%02X", c)
		for _, s := range []string{"/%25" + small, "/?%25" + small} {
			checkPath(t, s, s)
		}
		for _, s := range []string{"/%25" + great, "/?%25" + great} {
			checkPath(t, s, s)
		}
	}
	checkPath(t, "/%252e%252e/a", "/%252e%252e/a")
	checkPath(t, "/a/%25%32%65/b", "/a/%252e/b")
}

func TestEscapedSegments(t *testing.T) {
	for s, want := range map[string]string{
		"/%2e":             "/",
		"/%2E":             "/",
		"/%2e%2E":          "/",
		"/.%2e":            "/",
		"/%2E.":            "/",
		"/a/%2e":           "/a/",
		"/a/%2e%2e":        "/",
		"/a/b/.%2E/c":      "/a/c",
		"/a/%2e/b":         "/a/b",
		"/%2e%2E/x":        "/x",
		"/a%2f%2e%2e/b":    "/a%2F../b",
		"/a/..%2fb":        "/a/..%2Fb",
		"/a/%2e%2e%2fb":    "/a/..%2Fb",
		"/a/%2e%2e%3fb":    "/a/..%3Fb",
		"/a/%2e%2e?b":      "/?b",
		"/a/%2e%2e%2e":     "/a/...",
		"/%2e%2ea/b%2e%2e": "/..a/b..",
	} {
		checkPath(t, s, want)
	}
}

// P8.2: dot segments

func TestDotSegments(t *testing.T) {
	for s, want := range map[string]string{
		"/.":                "/",
		"/..":               "/",
		"/./":               "/",
		"/../":              "/",
		"/./.":              "/",
		"/../..":            "/",
		"/./a":              "/a",
		"/../a":             "/a",
		"/../../../a":       "/a",
		"/a/.":              "/a/",
		"/a/./":             "/a/",
		"/a/..":             "/",
		"/a/../":            "/",
		"/a/./b":            "/a/b",
		"/a/../b":           "/b",
		"/a/../../b":        "/b",
		"/a/../../../b/":    "/b/",
		"/a/b/..":           "/a/",
		"/a/b/../":          "/a/",
		"/a/b/../..":        "/",
		"/a/b/../../..":     "/",
		"/a/b/../../../c":   "/c",
		"/a/b/./../c":       "/a/c",
		"/a/b/c/./../../g":  "/a/g",
		"/a/./././b":        "/a/b",
		"//..":              "/",
		"//../":             "/",
		"//../a":            "/a",
		"///..":             "//",
		"/a//..":            "/a/",
		"/a//../b":          "/a/b",
		"/a//../../b":       "/b",
		"/a///../b":         "/a//b",
		"//.":               "//",
		"//./":              "//",
		"/.//":              "//",
		"/..//":             "//",
		"/..//a":            "//a",
		"/a/..//b":          "//b",
		"//a/../b":          "//b",
		"/...":              "/...",
		"/.../a":            "/.../a",
		"/a/.../..":         "/a/",
		"/a./b":             "/a./b",
		"/.a/..b/c../d.":    "/.a/..b/c../d.",
		"/a/..;x/b":         "/a/..;x/b",
		"/a/.b/../..c":      "/a/..c",
		"/-/_/~/./..":       "/-/_/",
		"/a:b/@/../c":       "/a:b/c",
		"/a/b/c/../../../d": "/d",
	} {
		checkPath(t, s, want)
		checkPath(t, s+"?", want+"?")
		checkPath(t, s+"?q/../r", want+"?q/../r")
	}
}

// A query keeps its periods and slashes.
func TestQueriesKeepDots(t *testing.T) {
	for s, want := range map[string]string{
		"/?.":             "/?.",
		"/?..":            "/?..",
		"/?/..":           "/?/..",
		"/?/../":          "/?/../",
		"/?a/./b/../c":    "/?a/./b/../c",
		"/a?/../b":        "/a?/../b",
		"/a/..?/../b":     "/?/../b",
		"/a/.?/.":         "/a/?/.",
		"/a?b/../c?d/..":  "/a?b/../c?d/..",
		"/a?%2e%2e/%2e":   "/a?../.",
		"/a/b?../..":      "/a/b?../..",
		"/a?//../":        "/a?//../",
		"/a/?./../b/./..": "/a/?./../b/./..",
	} {
		checkPath(t, s, want)
	}
}

// removeDots is the algorithm of RFC 3986, 5.2.4, on two buffers.
func removeDots(in string) string {
	out := ""
	for in != "" {
		switch {
		case strings.HasPrefix(in, "/./"):
			in = in[2:]
		case in == "/.":
			in = "/"
		case strings.HasPrefix(in, "/../"), in == "/..":
			in = "/" + strings.TrimPrefix(in[3:], "/")
			if at := strings.LastIndex(out, "/"); at >= 0 {
				out = out[:at]
			}
		default:
			end := 1 + strings.IndexByte(in[1:]+"/", '/')
			out, in = out+in[:end], in[end:]
		}
	}
	return out
}

// told answers a path by the words of the document, or false if it is none.
func told(s string) (string, bool) {
	form := regexp.MustCompile(`^/(?:%[0-9A-Fa-f]{2}|[0-9A-Za-z._~!$&'()*+,;=:@/?-])*$`)
	if !form.MatchString(s) {
		return "", false
	}
	s = regexp.MustCompile(`%..`).ReplaceAllStringFunc(s, func(x string) string {
		var c int
		fmt.Sscanf(x[1:], "%x", &c)
		if has(ofPlain, c) {
			return one(c)
		}
		return strings.ToUpper(x)
	})
	path, query, has := strings.Cut(s, "?")
	if has {
		query = "?" + query
	}
	return removeDots(path) + query, true
}

// checkTold holds Path against the document's words.
func checkTold(t *testing.T, s string) bool {
	t.Helper()
	want, ok := told(s)
	if ok {
		checkPath(t, s, want)
	} else {
		checkNoPath(t, s, docErrTarget)
	}
	return ok
}

func TestAllShortPathsOfDots(t *testing.T) {
	for _, s := range words(8, "/", ".", "a") {
		checkTold(t, "/"+s)
	}
	for _, s := range words(6, "/", ".", "a", "?") {
		checkTold(t, "/"+s)
	}
	for _, s := range words(6, "/.", "/..", "/a", "/", "%2e") {
		checkTold(t, "/"+s)
	}
}

func TestAllShortPathsOfEscapes(t *testing.T) {
	for _, s := range words(5, "%", "2", "e", "/", ".", "g") {
		checkTold(t, "/"+s)
		checkTold(t, "/?"+s)
		checkTold(t, s)
	}
}

// pieces are what paths are made of at random, mostly allowed ones.
var pieces = []string{"/", "/", "/", ".", ".", "..", "/../", "/./", "a", "B", "0", "~", "-", "_", "%41", "%2e",
	"%2E", "%2f", "%2F", "%25", "%7e", "%c3", "%C3", "%3f", "?", "=", "&", "@", ":", "+", ",", ";", "(", ")", "!", "$", "'", "*"}

// randomPath answers a path of so many pieces, one of which may be wrong.
func randomPath(r *rand.Rand, n int) string {
	s := "/"
	for range n {
		s += pieces[r.Intn(len(pieces))]
	}
	if r.Intn(10) == 0 {
		at := r.Intn(len(s) + 1)
		s = s[:at] + one(r.Intn(256)) + s[at:]
	}
	return s
}

func TestRandomPaths(t *testing.T) {
	r := rand.New(rand.NewSource(8))
	good, bad := 0, 0
	for range 30000 {
		if checkTold(t, randomPath(r, r.Intn(30))) {
			good++
		} else {
			bad++
		}
	}
	if good < 1000 || bad < 1000 {
		t.Errorf("%d paths and %d others", good, bad)
	}
}

// P8.3

func TestParse(t *testing.T) {
	for _, x := range []struct {
		s, host string
		want    api.URI
	}{
		{"/", "a", api.URI{Host: "a", Port: 80, Path: "/"}},
		{"/p?q", "Ex.com:8080", api.URI{Host: "ex.com", Port: 8080, Path: "/p?q"}},
		{"/p", "a:", api.URI{Host: "a", Port: 80, Path: "/p"}},
		{"/a/../%7e%2f", "A:00081", api.URI{Host: "a", Port: 81, Path: "/~%2F"}},
		{"//", "a", api.URI{Host: "a", Port: 80, Path: "//"}},
		{"//b/c", "a", api.URI{Host: "a", Port: 80, Path: "//b/c"}},
		{"/http://b/", "a", api.URI{Host: "a", Port: 80, Path: "/http://b/"}},
		{"/..", "a", api.URI{Host: "a", Port: 80, Path: "/"}},
		{"HTTP://Ex.com:80", "", api.URI{Host: "ex.com", Port: 80, Path: "/"}},
		{"http://a", "b", api.URI{Host: "a", Port: 80, Path: "/"}},
		{"http://a/", "b", api.URI{Host: "a", Port: 80, Path: "/"}},
		{"http://a?", "b", api.URI{Host: "a", Port: 80, Path: "/?"}},
		{"http://a?x/../y", "b", api.URI{Host: "a", Port: 80, Path: "/?x/../y"}},
		{"http://A:81?%2e", "b", api.URI{Host: "a", Port: 81, Path: "/?."}},
		{"http://a:?/", "b", api.URI{Host: "a", Port: 80, Path: "/?/"}},
		{"http://a??", "b", api.URI{Host: "a", Port: 80, Path: "/??"}},
		{"http://a:", "b", api.URI{Host: "a", Port: 80, Path: "/"}},
		{"http://a:65535", "b", api.URI{Host: "a", Port: 65535, Path: "/"}},
		{"http://a:8080/./b/../c?d", "b:1", api.URI{Host: "a", Port: 8080, Path: "/c?d"}},
		{"http://a//b", "", api.URI{Host: "a", Port: 80, Path: "//b"}},
		{"http://a/..", "", api.URI{Host: "a", Port: 80, Path: "/"}},
		{"http://a/?b", "", api.URI{Host: "a", Port: 80, Path: "/?b"}},
		{"http://a/b@c:d", "", api.URI{Host: "a", Port: 80, Path: "/b@c:d"}},
		{"http://a?b@c:d", "", api.URI{Host: "a", Port: 80, Path: "/?b@c:d"}},
		{"http://http:81//x", "", api.URI{Host: "http", Port: 81, Path: "//x"}},
	} {
		checkParse(t, x.s, x.host, x.want)
	}
}

// Each letter of the scheme in both cases, and no other scheme.
func TestParseOfSchemes(t *testing.T) {
	for _, s := range []string{"h", "H"} {
		for _, tt := range words(2, "t", "T") {
			for _, p := range []string{"p", "P"} {
				if len(tt) == 2 {
					checkParse(t, s+tt+p+"://A:81/b", "c", api.URI{Host: "a", Port: 81, Path: "/b"})
				}
			}
		}
	}
	for _, s := range []string{"https://a/", "HTTPS://a", "ftp://a/", "ws://a", "http:/", "http:", "http", "h", "http:/a",
		"http:a", "http//a", "http:\\\\a", "http ://a", " http://a", "\thttp://a/", "xhttp://a", "httpp://a", "htp://a",
		"http;//a", "http:?/a", "ht\u0165p://a", "%68ttp://a", "\"http://a\"", "ttp://a", "://a", ":80/", "http::/a"} {
		checkNoParse(t, s, "h", docErrTarget)
	}
	const scheme = "http://"
	for i := range scheme {
		for c := range 256 {
			if s := scheme[:i] + one(c) + scheme[i+1:] + "a"; !strings.EqualFold(s[:len(scheme)], scheme) {
				if i == 0 && c == '/' {
					continue
				}
				checkNoParse(t, s, "h", docErrTarget)
			}
		}
	}
}

// Targets of neither form have one error, whatever the host.
func TestParseOfOtherForms(t *testing.T) {
	for _, host := range []string{"h", "", ":", "a b", "h:0", strings.Repeat("h", 254)} {
		for _, s := range []string{"", "*", "a", "a/b", "h", "h:80", "h:80/", "ex.com/", ".", "..", "./", "../a", "?", "?a",
			"#", " ", " /", "%2f", "%2Fa", "\\", "\x00", "\xff/", "a?b", "http:", "https://a/ ", "mailto:a",
			strings.Repeat("a", 8193), strings.Repeat("?", 100000)} {
			checkNoParse(t, s, host, docErrTarget)
		}
		for c := range 256 {
			if c != '/' {
				checkNoParse(t, one(c), host, docErrTarget)
				checkNoParse(t, one(c)+"/", host, docErrTarget)
			}
		}
	}
}

// bad answers authorities that are none.
func bad() []string {
	return []string{"", ":", ":80", "a:0", "a:65536", "a:000080", "a:b", "a:80:80", "a b", "u@a", "[::1]", "a_b", "a#b",
		"a%41", "\u00e4", "a*", "a:-1", strings.Repeat("a", 254), strings.Repeat("a", 254) + ":80"}
}

// wrong answers paths that are none, by their errors.
func wrong() map[string]api.Errno {
	return map[string]api.Errno{
		"/ ": docErrTarget, "/%": docErrTarget, "/%4": docErrTarget, "/a#b": docErrTarget, "/?%4g": docErrTarget,
		"/?[": docErrTarget, "/\x80": docErrTarget,
		"/" + strings.Repeat("a", 8192): docErrLong, "/" + strings.Repeat(" ", 8192): docErrLong,
		"/?" + strings.Repeat("a", 8191): docErrLong,
	}
}

// The error of an authority goes ahead of that of a path.
func TestParseErrors(t *testing.T) {
	for _, host := range bad() {
		for _, path := range []string{"/", "/a", "/a?b", "/.."} {
			checkNoParse(t, path, host, docErrHost)
			checkNoParse(t, "http://"+host+path, "h", docErrHost)
		}
		for path := range wrong() {
			checkNoParse(t, path, host, docErrHost)
			checkNoParse(t, "http://"+host+path, "h", docErrHost)
		}
		checkNoParse(t, "HTTP://"+host, "h", docErrHost)
		checkNoParse(t, "http://"+host+"?", "h", docErrHost)
		checkNoParse(t, "http://"+host+"?%", "h", docErrHost)
	}
	for path, code := range wrong() {
		for _, host := range []string{"h", "H.x:81", "h:"} {
			checkNoParse(t, path, host, code)
			checkNoParse(t, "http://"+host+path, "h", code)
			checkNoParse(t, "hTTp://"+host+path, "", code)
		}
	}
}

// A target that tells its authority does not look at the other one.
func TestParseIgnoresHost(t *testing.T) {
	for _, host := range append(bad(), "h", "h:81", strings.Repeat("x", 100000)) {
		checkParse(t, "http://A:82/b", host, api.URI{Host: "a", Port: 82, Path: "/b"})
		checkParse(t, "http://A?b", host, api.URI{Host: "a", Port: 80, Path: "/?b"})
		checkNoParse(t, "http://A:82/ ", host, docErrTarget)
	}
	for _, s := range []string{"http://", "http:///", "http:///a", "http://?", "http://?a", "http://:80", "http://:80/a"} {
		checkNoParse(t, s, "h", docErrHost)
	}
}

// The slash ahead of a query counts, and the authority does not.
func TestParseOfLongTargets(t *testing.T) {
	long := strings.Repeat("a", 8191)
	host := strings.Repeat("h", 253)
	checkParse(t, "/"+long, host, api.URI{Host: host, Port: 80, Path: "/" + long})
	checkNoParse(t, "/"+long+"a", host, docErrLong)
	checkParse(t, "http://"+host+":81/"+long, "", api.URI{Host: host, Port: 81, Path: "/" + long})
	checkNoParse(t, "http://"+host+":81/"+long+"a", "", docErrLong)
	checkParse(t, "http://"+host+"?"+long[1:], "", api.URI{Host: host, Port: 80, Path: "/?" + long[1:]})
	checkNoParse(t, "http://"+host+"?"+long, "", docErrLong)
	checkNoParse(t, "http://"+long, "", docErrHost)
	checkNoParse(t, "http://"+long+long+"/", "", docErrHost)
}

// Each byte behind the authority ends it, or belongs to it, or is wrong.
func TestParseOfEachByteBehindHost(t *testing.T) {
	for c := range 256 {
		s := "http://a" + one(c) + "81"
		switch {
		case c == '/':
			checkParse(t, s, "h", api.URI{Host: "a", Port: 80, Path: "/81"})
		case c == '?':
			checkParse(t, s, "h", api.URI{Host: "a", Port: 80, Path: "/?81"})
		case c == ':':
			checkParse(t, s, "h", api.URI{Host: "a", Port: 81, Path: "/"})
		case has(ofHosts, c):
			checkParse(t, s, "h", api.URI{Host: strings.ToLower(s[7:]), Port: 80, Path: "/"})
		default:
			checkNoParse(t, s, "h", docErrHost)
		}
	}
}

// P8.4: Resolve

func TestResolve(t *testing.T) {
	for _, x := range []struct {
		u    api.URI
		s    string
		want api.URI
	}{
		{api.URI{Host: "a", Port: 80, Path: "/x"}, "/y", api.URI{Host: "a", Port: 80, Path: "/y"}},
		{api.URI{Host: "a", Port: 8080, Path: "/x?y"}, "/q/../r", api.URI{Host: "a", Port: 8080, Path: "/r"}},
		{api.URI{Host: "a.b", Port: 65535, Path: "/x"}, "/%7e?z", api.URI{Host: "a.b", Port: 65535, Path: "/~?z"}},
		{api.URI{Host: "a", Port: 1}, "/", api.URI{Host: "a", Port: 1, Path: "/"}},
		{api.URI{Host: "a", Port: 81, Path: "/x"}, "http://a/y", api.URI{Host: "a", Port: 80, Path: "/y"}},
		{api.URI{Host: "a", Port: 81, Path: "/x"}, "HTTP://B:82?y", api.URI{Host: "b", Port: 82, Path: "/?y"}},
		{api.URI{Host: "a", Port: 81, Path: "/x"}, "http://b", api.URI{Host: "b", Port: 80, Path: "/"}},
		{api.URI{Host: "A", Port: 81, Path: " "}, "//b/c", api.URI{Host: "a", Port: 81, Path: "//b/c"}},
		{api.URI{}, "http://b/c", api.URI{Host: "b", Port: 80, Path: "/c"}},
		{api.URI{Host: "a b", Port: -1}, "http://b/c", api.URI{Host: "b", Port: 80, Path: "/c"}},
		{api.URI{Host: strings.Repeat("a", 253), Port: 99}, "/b", api.URI{Host: strings.Repeat("a", 253), Port: 99, Path: "/b"}},
	} {
		if v, ok := Resolve(x.u, x.s); v != x.want || !ok {
			t.Errorf("Resolve(%v, %q) is %v, %v, want %v", x.u, x.s, v, ok, x.want)
		}
	}
}

func checkUnresolved(t *testing.T, u api.URI, s string) {
	t.Helper()
	if v, ok := Resolve(u, s); v != (api.URI{}) || ok {
		t.Errorf("Resolve(%v, %q) is %v, %v, want none", u, s, v, ok)
	}
}

func TestNotResolved(t *testing.T) {
	u := api.URI{Host: "a", Port: 81, Path: "/x/"}
	for _, s := range []string{"", "y", "y/z", ".", "../y", "./y", "?y", "*", "#", "/#", "/ ", "/%", "/%4g", "https://a/y",
		"http://", "http:///y", "http://a:0/y", "http://a/ ", "http:/y", "a:81/y", "/" + strings.Repeat("y", 8192)} {
		checkUnresolved(t, u, s)
	}
	for _, host := range []string{"", "a b", "a_b", "a/b", "a:", "a:81", ":", "\x00", strings.Repeat("a", 254)} {
		for _, port := range []int{80, 81} {
			checkUnresolved(t, api.URI{Host: host, Port: port, Path: "/"}, "/y")
		}
	}
	for _, port := range []int{0, -1, -80, 65536, 100000, 65536 + 80, 1<<32 + 80, math.MinInt, math.MaxInt} {
		checkUnresolved(t, api.URI{Host: "a", Port: port, Path: "/"}, "/y")
	}
	checkUnresolved(t, api.URI{}, "/y")
}

// A target is resolved as it is parsed with that host and port.
func TestResolveIsParse(t *testing.T) {
	r := rand.New(rand.NewSource(84))
	for range 5000 {
		u := api.URI{Host: "x.y", Port: 1 + r.Intn(65535), Path: "/z"}
		s := randomPath(r, r.Intn(12))
		if r.Intn(4) == 0 {
			s = "http://b:9" + s
		}
		want, e := Parse(s, fmt.Sprintf("x.y:%d", u.Port))
		if v, ok := Resolve(u, s); v != want || ok != (e == 0) {
			t.Errorf("Resolve(%v, %q) is %v, %v, want %v", u, s, v, ok, want)
		}
	}
}

// P8.4: Text and Key

func TestTextAndKey(t *testing.T) {
	for _, x := range []struct {
		u    api.URI
		want string
	}{
		{api.URI{Host: "a", Port: 80, Path: "/"}, "http://a/"},
		{api.URI{Host: "a", Port: 8080, Path: "/x?y"}, "http://a:8080/x?y"},
		{api.URI{Host: "a.b", Port: 1, Path: "//"}, "http://a.b:1//"},
		{api.URI{Host: "a", Port: 65535, Path: "/?"}, "http://a:65535/?"},
		{api.URI{Host: "a", Port: 8, Path: "/"}, "http://a:8/"},
		{api.URI{Host: "a", Port: 800, Path: "/"}, "http://a:800/"},
		{api.URI{Host: "a", Port: 443, Path: "/~%2F"}, "http://a:443/~%2F"},
		{api.URI{}, "http://:0"},
		{api.URI{Host: "A b", Port: -1, Path: "x"}, "http://A b:-1x"},
		{api.URI{Port: 80}, "http://"},
		{api.URI{Host: "\xff\x00", Port: math.MinInt}, "http://\xff\x00:-9223372036854775808"},
	} {
		if got := Text(x.u); got != x.want {
			t.Errorf("Text(%v) is %q, want %q", x.u, got, x.want)
		}
		if got, e := Key(x.u); got != "GET "+x.want || e != 0 {
			t.Errorf("Key(%v) is %q, %d", x.u, got, e)
		}
	}
}

func TestKeyLengths(t *testing.T) {
	for _, u := range []api.URI{
		{Host: "a", Port: 80},
		{Host: "a.example.org", Port: 80},
		{Host: "a", Port: 8},
		{Host: "a", Port: 65535},
		{Host: strings.Repeat("a", 200), Port: 81},
	} {
		for n := 1; n <= 300; n++ {
			u.Path = "/" + strings.Repeat("x", n-1)
			want := "GET http://" + u.Host + fmt.Sprintf(":%d", u.Port) + u.Path
			if u.Port == 80 {
				want = "GET http://" + u.Host + u.Path
			}
			code := api.Errno(0)
			if len(want) > maxKey {
				want, code = "", docErrLong
			}
			if got, e := Key(u); got != want || e != code {
				t.Errorf("Key(%v) is %q, %d", u, got, e)
			}
		}
	}
}

func TestKeysOf255And256Bytes(t *testing.T) {
	const ahead = len("GET http://a/")
	for n, code := range map[int]api.Errno{254: 0, 255: 0, 256: docErrLong, 257: docErrLong, 8192: docErrLong, 100000: docErrLong} {
		u := api.URI{Host: "a", Port: 80, Path: "/" + strings.Repeat("b", n-ahead)}
		s, e := Key(u)
		if e != code || code == 0 && len(s) != n || code != 0 && s != "" {
			t.Errorf("a key of %d bytes: %d bytes, %d", n, len(s), e)
		}
	}
	if s, e := Key(api.URI{Host: strings.Repeat("h", 253), Port: 80, Path: "/"}); s != "" || e != docErrLong {
		t.Errorf("the key of a long host: %q, %d", s, e)
	}
}

// P8.5

// dotted tells whether a path has a segment of one or two periods.
func dotted(path string) bool {
	path, _, _ = strings.Cut(path, "?")
	for _, segment := range strings.Split(path, "/") {
		if segment == "." || segment == ".." {
			return true
		}
	}
	return false
}

// checkNormal looks at what follows from Parse's answer. It tells whether there
// was one.
func checkNormal(t *testing.T, s, host string) bool {
	t.Helper()
	u, e := Parse(s, host)
	if e != 0 {
		return false
	}
	for _, other := range []string{"", host, "other:99", ":"} {
		checkParse(t, Text(u), other, u)
	}
	checkParse(t, u.Path, fmt.Sprintf("%s:%d", u.Host, u.Port), u)
	checkPath(t, u.Path, u.Path)
	if u.Port == 80 {
		checkParse(t, u.Path, u.Host, u)
	}
	if v, ok := Resolve(u, Text(u)); v != u || !ok {
		t.Errorf("Resolve(%v, its text) is %v, %v", u, v, ok)
	}
	if !strings.HasPrefix(u.Path, "/") || dotted(u.Path) || len(u.Path) > maxText {
		t.Errorf("the path of %q is %q", s, u.Path)
	}
	return true
}

func TestNormalizationIsIdempotent(t *testing.T) {
	r := rand.New(rand.NewSource(85))
	hosts := []string{"a", "A", "Ex.COM", "a-b.", "x:80", "x:", "x:81", "X:00099", "x:65535", "x:0", "", ":", "127.0.0.1"}
	found := 0
	for range 20000 {
		host, s := hosts[r.Intn(len(hosts))], randomPath(r, r.Intn(25))
		switch r.Intn(3) {
		case 0:
			s = "hTTp://" + hosts[r.Intn(len(hosts))] + s
		case 1:
			s = "http://" + hosts[r.Intn(len(hosts))] + strings.TrimPrefix(s, "/")
		}
		if checkNormal(t, s, host) {
			found++
		}
	}
	if found < 5000 {
		t.Errorf("%d targets among them", found)
	}
}

func TestShortTargetsAreIdempotent(t *testing.T) {
	for _, s := range words(6, "/", ".", "a", "%2E", "?") {
		checkNormal(t, "/"+s, "H:8")
		checkNormal(t, "http://H"+s, "")
	}
	for _, s := range words(7, "%", "2", "5", "E", "e") {
		checkNormal(t, "/"+s, "h")
	}
}

func TestGreatTargetsAreIdempotent(t *testing.T) {
	for _, part := range []string{"a", "/", ".", "..", "/..", "/.", "%2e", "%2e%2e/", "a/../", "%25", "%252e", "?", "./", "//.."} {
		for _, n := range []int{8190, 8191, 8192} {
			s := "/" + strings.Repeat(part, n/len(part))
			s = s[:min(len(s), n)]
			if strings.ContainsAny(part, "%") {
				s = s[:1+(len(s)-1)/len(part)*len(part)]
			}
			if !checkNormal(t, s, strings.Repeat("H", 253)+":65535") {
				t.Errorf("no target: %d of %q", n, part)
			}
		}
	}
}

// R1: strange texts of all kinds.

func TestStrangeTexts(t *testing.T) {
	r := rand.New(rand.NewSource(86))
	for range 20000 {
		b := make([]byte, r.Intn(20))
		for i := range b {
			b[i] = byte(r.Intn(256))
			if r.Intn(2) == 0 {
				b[i] = "/%.?:hHtpTP2eE0a"[r.Intn(16)]
			}
		}
		s := string(b)
		checkNormal(t, s, s)
		checkNormal(t, "/"+s, "h")
		checkNormal(t, "/"+s, s)
		checkNormal(t, "http://"+s, s)
		checkTold(t, s)
		Resolve(api.URI{Host: s, Port: r.Int(), Path: s}, s)
		Key(api.URI{Host: s, Port: -r.Int(), Path: s})
	}
}
