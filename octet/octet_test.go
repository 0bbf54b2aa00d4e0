package octet

import (
	"slices"
	"strings"
	"testing"
)

// The bytes of each class, written out, so that a test does not lean on the
// ranges that the package uses.
const (
	digits    = "0123456789"
	small     = "abcdefghijklmnopqrstuvwxyz"
	great     = "ABCDEFGHIJKLMNOPQRSTUVWXYZ"
	marks     = "!#$%&'*+-.^_`|~"
	tokens    = digits + small + great + marks
	noMarks   = "\"(),/:;<=>?@[\\]{}"
	hexSmall  = "0123456789abcdef"
	hexGreat  = "0123456789ABCDEF"
	printable = tokens + noMarks + " "
)

// bytes256 answers each byte once, in order.
func bytes256() []byte {
	l := make([]byte, 256)
	for i := range l {
		l[i] = byte(i)
	}
	return l
}

// words answers all texts of at most most bytes of an alphabet.
func words(alphabet string, most int) []string {
	all := []string{""}
	last := all
	for range most {
		var next []string
		for _, w := range last {
			for i := range len(alphabet) {
				next = append(next, w+alphabet[i:i+1])
			}
		}
		all = append(all, next...)
		last = next
	}
	return all
}

// P1.1

func TestToken(t *testing.T) {
	for _, c := range bytes256() {
		want := strings.IndexByte(tokens, c) >= 0
		if got := Token(c); got != want {
			t.Errorf("Token(%d) is %v, want %v", c, got, want)
		}
	}
}

func TestTokenAroundRanges(t *testing.T) {
	for _, c := range []byte{'0' - 1, '9' + 1, 'A' - 1, 'Z' + 1, 'z' + 1, 0, 9, 32, 127, 128, 255} {
		if Token(c) {
			t.Errorf("Token(%d) is true", c)
		}
	}
	for _, c := range []byte{'0', '9', 'A', 'Z', 'a', 'z', '!', '~', 96} {
		if !Token(c) {
			t.Errorf("Token(%d) is false", c)
		}
	}
}

func TestText(t *testing.T) {
	for i, c := range bytes256() {
		want := i == 9 || i >= 32 && i <= 126 || i >= 128
		if got := Text(c); got != want {
			t.Errorf("Text(%d) is %v, want %v", c, got, want)
		}
	}
}

func TestTextOfPrintableBytes(t *testing.T) {
	if len(printable) != 126-32+1 {
		t.Fatalf("%d printable bytes", len(printable))
	}
	for i := range len(printable) {
		if !Text(printable[i]) {
			t.Errorf("Text(%d) is false", printable[i])
		}
	}
	for _, c := range []byte{0, 8, 10, 13, 31, 127} {
		if Text(c) {
			t.Errorf("Text(%d) is true", c)
		}
	}
	for _, c := range []byte{9, 32, 126, 128, 255} {
		if !Text(c) {
			t.Errorf("Text(%d) is false", c)
		}
	}
}

func TestDigit(t *testing.T) {
	for _, c := range bytes256() {
		want := strings.IndexByte(digits, c) >= 0
		if got := Digit(c); got != want {
			t.Errorf("Digit(%d) is %v, want %v", c, got, want)
		}
	}
	if Digit('0'-1) || Digit('9'+1) || !Digit('0') || !Digit('9') {
		t.Error("Digit around its range")
	}
}

func TestHex(t *testing.T) {
	for _, c := range bytes256() {
		want := strings.IndexByte(hexSmall, c)
		if want < 0 {
			want = strings.IndexByte(hexGreat, c)
		}
		has := want >= 0
		want = max(want, 0)
		if got, ok := Hex(c); got != want || ok != has {
			t.Errorf("Hex(%d) is %d, %v, want %d, %v", c, got, ok, want, has)
		}
	}
}

func TestHexAroundRanges(t *testing.T) {
	for _, c := range []byte{'0' - 1, '9' + 1, 'A' - 1, 'F' + 1, 'a' - 1, 'f' + 1, 'g', 'G', 'x', 0, 255} {
		if got, ok := Hex(c); got != 0 || ok {
			t.Errorf("Hex(%d) is %d, %v", c, got, ok)
		}
	}
	if n, ok := Hex('f'); n != 15 || !ok {
		t.Errorf("Hex('f') is %d, %v", n, ok)
	}
	if n, ok := Hex('0'); n != 0 || !ok {
		t.Errorf("Hex('0') is %d, %v", n, ok)
	}
}

// P1.2

func TestLower(t *testing.T) {
	for s, want := range map[string]string{
		"":                     "",
		"A":                    "a",
		great:                  small,
		small:                  small,
		"Content-Type":         "content-type",
		"@[`{":                 "@[`{",
		"\xc4\xd6\xff\x00":     "\xc4\xd6\xff\x00",
		"\u00c4\u212a\u0130 X": "\u00c4\u212a\u0130 x",
		"0-9 \t\r\n~":          "0-9 \t\r\n~",
	} {
		if got := Lower(s); got != want {
			t.Errorf("Lower(%q) is %q, want %q", s, got, want)
		}
	}
}

func TestLowerOfEachByte(t *testing.T) {
	for _, c := range bytes256() {
		want := c
		if i := strings.IndexByte(great, c); i >= 0 {
			want = small[i]
		}
		if got := Lower(string([]byte{c})); got != string([]byte{want}) {
			t.Errorf("Lower of byte %d is %q", c, got)
		}
	}
}

func TestSame(t *testing.T) {
	for _, x := range []struct {
		a, b string
		want bool
	}{
		{"", "", true},
		{"", "a", false},
		{"a", "", false},
		{"a", "A", true},
		{"a", "b", false},
		{"a", "ab", false},
		{"ab", "a", false},
		{"Max-AGE", "mAX-age", true},
		{"age", "Age ", false},
		{"@", "`", false},
		{"[", "{", false},
		{"\x00", " ", false},
		{"1", "\x11", false},
		{"\xc4", "\xe4", false},
		{"K", "\u212a", false},
		{"\xff", "\xff", true},
		{"ss", "\u00df", false},
	} {
		if got := Same(x.a, x.b); got != x.want {
			t.Errorf("Same(%q, %q) is %v", x.a, x.b, got)
		}
	}
}

func TestSameOfEachTwoBytes(t *testing.T) {
	for _, a := range bytes256() {
		for _, b := range bytes256() {
			i, j := strings.IndexByte(great, a), strings.IndexByte(great, b)
			want := a == b || i >= 0 && small[i] == b || j >= 0 && small[j] == a
			if got := Same(string([]byte{a}), string([]byte{b})); got != want {
				t.Errorf("Same of bytes %d and %d is %v", a, b, got)
			}
		}
	}
}

func TestIsToken(t *testing.T) {
	for s, want := range map[string]bool{
		"":          false,
		"a":         true,
		tokens:      true,
		"max-age":   true,
		" max-age":  false,
		"max-age ":  false,
		"max age":   false,
		"a:":        false,
		":a":        false,
		"a\x00b":    false,
		"a\xff":     false,
		"\u00e4":    false,
		"\"a\"":     false,
		"a,b":       false,
		"a\t":       false,
		"a\r\n":     false,
		"~~`~~":     true,
		"GET":       true,
		"\x7f":      false,
		"123456789": true,
	} {
		if got := IsToken(s); got != want {
			t.Errorf("IsToken(%q) is %v", s, got)
		}
	}
}

func TestIsText(t *testing.T) {
	for s, want := range map[string]bool{
		"":               true,
		" ":              true,
		"\t":             true,
		printable:        true,
		"a b\tc":         true,
		"\x80\xc4\xff":   true,
		"\u00e4\u20ac":   true,
		"a\x00":          false,
		"\x00a":          false,
		"a\nb":           false,
		"a\r":            false,
		"\x7f":           false,
		"a\x1fb":         false,
		"a long one\x08": false,
	} {
		if got := IsText(s); got != want {
			t.Errorf("IsText(%q) is %v", s, got)
		}
	}
}

func TestWholeTextsOfEachByte(t *testing.T) {
	for _, c := range bytes256() {
		one := string([]byte{c})
		for _, s := range []string{one, one + "a", "a" + one, "a" + one + "a"} {
			if got := IsToken(s); got != Token(c) {
				t.Errorf("IsToken(%q) is %v", s, got)
			}
			if got := IsText(s); got != Text(c) {
				t.Errorf("IsText(%q) is %v", s, got)
			}
		}
	}
}

// P1.3

func TestTrim(t *testing.T) {
	for s, want := range map[string]string{
		"":                 "",
		" ":                "",
		"\t":               "",
		" \t \t":           "",
		"a":                "a",
		" a":               "a",
		"a ":               "a",
		"\t a b ":          "a b",
		"\t\ta\tb  ":       "a\tb",
		"\na\r":            "\na\r",
		"\x00a\v\f":        "\x00a\v\f",
		"\u00a0a\u2003":    "\u00a0a\u2003",
		" \n ":             "\n",
		"a  b":             "a  b",
		"\xa0a\x85":        "\xa0a\x85",
		"   a, b   ;  c\t": "a, b   ;  c",
	} {
		if got := Trim(s); got != want {
			t.Errorf("Trim(%q) is %q, want %q", s, got, want)
		}
	}
}

func TestTrimOfEachByte(t *testing.T) {
	for _, c := range bytes256() {
		one := string([]byte{c})
		want := one + "a" + one
		if c == 9 || c == 32 {
			want = "a"
		}
		if got := Trim(one + "a" + one); got != want {
			t.Errorf("Trim around byte %d is %q", c, got)
		}
	}
}

func TestCut(t *testing.T) {
	for _, x := range []struct {
		s             string
		by            byte
		before, after string
		ok            bool
	}{
		{"a:b:c", ':', "a", "b:c", true},
		{"a:b", ':', "a", "b", true},
		{":b", ':', "", "b", true},
		{"a:", ':', "a", "", true},
		{":", ':', "", "", true},
		{"::", ':', "", ":", true},
		{"ab", ':', "ab", "", false},
		{"", ':', "", "", false},
		{"", 0, "", "", false},
		{"a\x00b", 0, "a", "b", true},
		{"a\xffb", 255, "a", "b", true},
		{"\u00ff", 255, "\u00ff", "", false},
		{"aAa", 'A', "a", "a", true},
		{"a b", '\t', "a b", "", false},
	} {
		before, after, ok := Cut(x.s, x.by)
		if before != x.before || after != x.after || ok != x.ok {
			t.Errorf("Cut(%q, %q) is %q, %q, %v", x.s, x.by, before, after, ok)
		}
	}
}

// P1.4

func TestLowerIsIdempotentAndKeepsLength(t *testing.T) {
	for _, s := range append(words("aAzZ@[\xc4 ", 4), string(bytes256()), "\u0130\u212a\u1e9e") {
		once := Lower(s)
		if Lower(once) != once {
			t.Errorf("Lower is not idempotent for %q", s)
		}
		if len(once) != len(s) {
			t.Errorf("Lower(%q) has %d bytes", s, len(once))
		}
	}
}

func TestSameIsAnEquivalence(t *testing.T) {
	all := words("aAb\xc4@", 2)
	for _, a := range all {
		if !Same(a, a) {
			t.Errorf("Same(%q, %q) is false", a, a)
		}
		for _, b := range all {
			if Same(a, b) != Same(b, a) {
				t.Errorf("Same is not symmetric for %q and %q", a, b)
			}
			for _, c := range all {
				if Same(a, b) && Same(b, c) && !Same(a, c) {
					t.Errorf("Same is not transitive for %q, %q, %q", a, b, c)
				}
			}
		}
	}
}

func TestSameIsEqualityOfLower(t *testing.T) {
	all := words("aAzZ[", 3)
	for _, a := range all {
		for _, b := range all {
			if Same(a, b) != (Lower(a) == Lower(b)) {
				t.Errorf("Same(%q, %q) is %v", a, b, Same(a, b))
			}
		}
	}
}

func TestTrimIsIdempotent(t *testing.T) {
	for _, s := range words(" \ta\n", 6) {
		once := Trim(s)
		if Trim(once) != once {
			t.Errorf("Trim is not idempotent for %q", s)
		}
		if once != strings.Trim(s, " \t") {
			t.Errorf("Trim(%q) is %q", s, once)
		}
	}
}

func TestCutFormsTheText(t *testing.T) {
	for _, s := range words("a:b\xff", 5) {
		for _, by := range []byte{':', 'a', 255, 0} {
			before, after, ok := Cut(s, by)
			if ok != slices.Contains([]byte(s), by) {
				t.Errorf("Cut(%q, %d) says %v", s, by, ok)
			}
			whole := before + after
			if ok {
				whole = before + string([]byte{by}) + after
			}
			if whole != s {
				t.Errorf("Cut(%q, %d) forms %q", s, by, whole)
			}
			if slices.Contains([]byte(before), by) {
				t.Errorf("Cut(%q, %d) is not at the first one", s, by)
			}
			if !ok && after != "" {
				t.Errorf("Cut(%q, %d) leaves %q behind", s, by, after)
			}
		}
	}
}

// R3: calls do not share what they answer.

func TestCallsAreIndependent(t *testing.T) {
	s := "Aa \t"
	first := Lower(s)
	Lower("ZZZZ")
	Trim(s)
	if first != "aa \t" || s != "Aa \t" {
		t.Errorf("%q, %q", first, s)
	}
}
