package fields

import (
	"math/rand"
	"regexp"
	"slices"
	"strings"
	"testing"

	"depot/api"
)

// The numbers and bytes that the document names, written out, so that a test
// does not lean on what the package uses.
const (
	docErrLong  = 4
	docErrField = 21
	maxText     = 8192
	maxFields   = 64
	tokens      = "0123456789abcdefghijklmnopqrstuvwxyzABCDEFGHIJKLMNOPQRSTUVWXYZ!#$%&'*+-.^_`|~"
)

// What a header line is, by the words of the document alone: a token, a :, and
// bytes that may stand in a value, between blanks.
var (
	lineForm  = regexp.MustCompile(`(?s)^([0-9A-Za-z!#$%&'*+.^_` + "`" + `|~-]+):[ \t]*(.*?)[ \t]*$`)
	tokenForm = regexp.MustCompile(`^[0-9A-Za-z!#$%&'*+.^_` + "`" + `|~-]+$`)
)

// one answers the text of a single byte.
func one(c int) string {
	return string([]byte{byte(c)})
}

// isText tells whether a text may be a value.
func isText(s string) bool {
	for i := range len(s) {
		if c := s[i]; c != 9 && c < 32 || c == 127 {
			return false
		}
	}
	return true
}

// toldParse answers a line's field by those words.
func toldParse(line string) (api.Field, api.Errno) {
	if len(line) > maxText {
		return api.Field{}, docErrLong
	}
	m := lineForm.FindStringSubmatch(line)
	if m == nil || !isText(m[2]) {
		return api.Field{}, docErrField
	}
	return api.Field{Name: m[1], Value: m[2]}, 0
}

// toldProper tells by them whether a field is of the right form.
func toldProper(f api.Field) bool {
	return tokenForm.MatchString(f.Name) && isText(f.Value) && strings.Trim(f.Value, " \t") == f.Value
}

// toldCheck tells by them whether fields may be.
func toldCheck(l []api.Field) api.Errno {
	if len(l) > maxFields {
		return docErrLong
	}
	for _, f := range l {
		if !toldProper(f) {
			return docErrField
		}
	}
	for _, f := range l {
		if len(f.Name)+2+len(f.Value) > maxText {
			return docErrLong
		}
	}
	return 0
}

// alikeNames tells whether two names are the same, for names of ASCII.
func alikeNames(a, b string) bool {
	return strings.ToLower(a) == strings.ToLower(b)
}

// words answers all texts of at most most bytes of an alphabet.
func words(alphabet string, most int) []string {
	all := []string{""}
	last := all
	for range most {
		var next []string
		for _, w := range last {
			for i := range len(alphabet) {
				next = append(next, w+alphabet[i:i+1])
			}
		}
		all = append(all, next...)
		last = next
	}
	return all
}

// list makes fields of names and values that take turns.
func list(texts ...string) []api.Field {
	var l []api.Field
	for i := 0; i < len(texts); i += 2 {
		l = append(l, api.Field{Name: texts[i], Value: texts[i+1]})
	}
	return l
}

// lists answers all lists of at most most fields of some names, each with a
// value of its own.
func lists(most int, names ...string) [][]api.Field {
	all := [][]api.Field{nil}
	last := all
	for n := range most {
		var next [][]api.Field
		for _, l := range last {
			for _, name := range names {
				next = append(next, append(slices.Clone(l), api.Field{Name: name, Value: one('1' + n)}))
			}
		}
		all = append(all, next...)
		last = next
	}
	return all
}

// times answers a field many times.
func times(n int, f api.Field) []api.Field {
	return slices.Repeat([]api.Field{f}, n)
}

func checkParse(t *testing.T, line string, want api.Field, code api.Errno) {
	t.Helper()
	if f, e := Parse(line); f != want || e != code {
		t.Errorf("Parse(%.60q) is %.60q, %d, want %.60q, %d", line, f, e, want, code)
	}
}

func checkCheck(t *testing.T, l []api.Field, want api.Errno) {
	t.Helper()
	if e := Check(l); e != want {
		t.Errorf("Check(%.60q) is %d, want %d", l, e, want)
	}
}

func checkList(t *testing.T, got, want []api.Field) {
	t.Helper()
	if !slices.Equal(got, want) {
		t.Errorf("%q, want %q", got, want)
	}
}

// P9.1: Parse

func TestParse(t *testing.T) {
	for _, x := range []struct{ line, name, value string }{
		{"Vary:  a, B ", "Vary", "a, B"},
		{"a:b", "a", "b"},
		{"a: b", "a", "b"},
		{"A:B", "A", "B"},
		{"X-a:\t b: c\t", "X-a", "b: c"},
		{"a:", "a", ""},
		{"a: ", "a", ""},
		{"a: \t \t", "a", ""},
		{"a::", "a", ":"},
		{"a: :b", "a", ":b"},
		{"a:b:c", "a", "b:c"},
		{"Host: ex.com:80", "Host", "ex.com:80"},
		{"a: b \t c", "a", "b \t c"},
		{"a:\"b, c\"", "a", "\"b, c\""},
		{"a: \x80\xff", "a", "\x80\xff"},
		{"a:\u00a0b\u00a0", "a", "\u00a0b\u00a0"},
		{"a: \u00e4 ", "a", "\u00e4"},
		{tokens + ":" + tokens, tokens, tokens},
		{"1:2", "1", "2"},
		{"!:!", "!", "!"},
	} {
		checkParse(t, x.line, api.Field{Name: x.name, Value: x.value}, 0)
	}
}

func TestParseOfOthers(t *testing.T) {
	for _, line := range []string{
		"", "a", " ", ":", "::", ":b", ": b", " :b", "a :b", " a:b", "\ta:b", "a\t:b", "a b:c", "a,b:c", "a;b:c", "a/b:c",
		"\"a\":b", "(a):b", "a=b:c", "a@b:c", "[a]:b", "{a}:b", "<a>:b", "a?:b", "a\\:b", "a\r:b", "a\n:b", "a\x00:b", "a\x7f:b",
		"\x80:b", "\xff:b", "\u00e4:b", "\u212a:b", "a b", "a=b", "GET / HTTP/1.1",
		"a: b\x00", "a: \x00b", "a: b\rc", "a: b\nc", "a: b\r", "a: b\n", "a: b\r\n", "a:\rb", "a:\nb", "a:\r\n b", "a:\n", "a:\r",
		"a:\x00", "a:\x7f", "a:\x1f", "a:\x0b", "a:\x0c", "a: b\x08c", "a: \v b", "a: b \f",
	} {
		checkParse(t, line, api.Field{}, docErrField)
	}
}

// Each byte alone, ahead, within and behind, of the name and of the value.
func TestParseOfEachByte(t *testing.T) {
	for c := range 256 {
		for _, s := range []string{one(c), one(c) + "x", "x" + one(c), "x" + one(c) + "x", " " + one(c) + " ", "x " + one(c) + "\t"} {
			for _, line := range []string{s, s + ":", s + ":b", s + ": b", "a:" + s, "a: " + s, "a:" + s + ":", s + ":" + s} {
				want, code := toldParse(line)
				checkParse(t, line, want, code)
			}
		}
	}
}

func TestParseByTheDocument(t *testing.T) {
	r := rand.New(rand.NewSource(9))
	all := slices.Concat(words("a: \t", 7), words("B:,\x00 ", 6), words(":a\x7f\xff", 6))
	for range 20000 {
		b := make([]byte, r.Intn(20))
		for i := range b {
			if b[i] = byte(r.Intn(256)); r.Intn(3) > 0 {
				b[i] = "aZ-:: \t,"[r.Intn(8)]
			}
		}
		all = append(all, string(b))
	}
	for _, s := range all {
		for _, line := range []string{s, "a" + s, "a:" + s} {
			want, code := toldParse(line)
			if f, e := Parse(line); f != want || e != code {
				t.Fatalf("Parse(%q) is %q, %d, want %q, %d", line, f, e, want, code)
			}
		}
	}
}

func TestParseLengths(t *testing.T) {
	for _, n := range []int{3, 255, 256, 8190, 8191, 8192} {
		name, value := strings.Repeat("N", n-2), strings.Repeat("v", n-2)
		checkParse(t, name+":v", api.Field{Name: name, Value: "v"}, 0)
		checkParse(t, "N:"+value, api.Field{Name: "N", Value: value}, 0)
		checkParse(t, "N:"+strings.Repeat(" ", n-2), api.Field{Name: "N"}, 0)
		checkParse(t, "N:"+strings.Repeat("\t", n-3)+"v", api.Field{Name: "N", Value: "v"}, 0)
		checkParse(t, strings.Repeat("N", n-1)+":", api.Field{Name: strings.Repeat("N", n-1)}, 0)
		checkParse(t, strings.Repeat("N", n), api.Field{}, docErrField)
		checkParse(t, strings.Repeat(":", n), api.Field{}, docErrField)
	}
	// The length counts ahead of the form, and blanks count.
	for _, n := range []int{8193, 8194, 16384, 1 << 16, 1<<16 + 1, 1 << 20} {
		for _, line := range []string{
			strings.Repeat("N", n-2) + ":v",
			"N:" + strings.Repeat("v", n-2),
			"N:" + strings.Repeat(" ", n-2),
			"N:v" + strings.Repeat(" ", n-3),
			strings.Repeat("N", n),
			strings.Repeat(":", n),
			"N:" + strings.Repeat("\x00", n-2),
			strings.Repeat(" ", n),
		} {
			checkParse(t, line, api.Field{}, docErrLong)
		}
	}
}

// P9.1: Line

func TestLine(t *testing.T) {
	for _, x := range []struct{ name, value, want string }{
		{"Vary", "a, B", "Vary: a, B"},
		{"a", "", "a: "},
		{"", "", ": "},
		{"", "b", ": b"},
		{"a", " b ", "a:  b "},
		{"a:b", "c:d", "a:b: c:d"},
		{"\x00", "\xff\r\n", "\x00: \xff\r\n"},
		{strings.Repeat("n", 9000), strings.Repeat("v", 9000), strings.Repeat("n", 9000) + ": " + strings.Repeat("v", 9000)},
	} {
		if got := Line(api.Field{Name: x.name, Value: x.value}); got != x.want {
			t.Errorf("Line(%.60q, %.60q) is %.60q, want %.60q", x.name, x.value, got, x.want)
		}
	}
}

// P9.1: Check

func TestCheck(t *testing.T) {
	for _, l := range [][]api.Field{
		nil,
		{},
		list("a", "b"),
		list("a", ""),
		list("a", "b", "a", "b", "A", "B"),
		list("Vary", "a, B", "Host", "ex.com:80"),
		list("a", "b \t c"),
		list("a", "\x80\xff", "!", "\u00a0"),
		list(tokens, tokens, "a", ":"),
	} {
		checkCheck(t, l, 0)
	}
}

func TestCheckOfOthers(t *testing.T) {
	for _, f := range list(
		"", "", "", "b", " ", "b", "a ", "b", " a", "b", "a b", "c", "a:", "b", ":", "b", "a\t", "b", "a,b", "c", "\x00", "b",
		"a\x7f", "b", "\xff", "b", "\u00e4", "b", "\"a\"", "b", "a\r\n", "b",
		"a", " ", "a", "\t", "a", " b", "a", "b ", "a", "\tb", "a", "b\t", "a", "\x00", "a", "b\rc", "a", "b\nc", "a", "b\r\n",
		"a", "\x7f", "a", "\x1f", "a", "b\x0b", "a", "b\x0c", "", " ", "a b", "c\n",
	) {
		good := api.Field{Name: "a", Value: "b"}
		checkCheck(t, []api.Field{f}, docErrField)
		checkCheck(t, []api.Field{f, good}, docErrField)
		checkCheck(t, []api.Field{good, f}, docErrField)
		checkCheck(t, []api.Field{good, f, good}, docErrField)
		checkCheck(t, append(times(maxFields-1, good), f), docErrField)
		checkCheck(t, append(times(maxFields, good), f), docErrLong)
	}
}

func TestCheckOfEachByte(t *testing.T) {
	for c := range 256 {
		for _, s := range []string{one(c), one(c) + "x", "x" + one(c), "x" + one(c) + "x"} {
			for _, l := range [][]api.Field{list("a", s), list(s, "b"), list(s, s), list("a", "b", s, "b"), list("a", "b", "a", s)} {
				checkCheck(t, l, toldCheck(l))
			}
		}
	}
}

func TestCheckOfManyFields(t *testing.T) {
	for _, n := range []int{1, 2, 63, 64} {
		checkCheck(t, times(n, api.Field{Name: "a", Value: "b"}), 0)
		checkCheck(t, times(n, api.Field{}), docErrField)
	}
	for _, n := range []int{65, 66, 128, 1000} {
		checkCheck(t, times(n, api.Field{Name: "a", Value: "b"}), docErrLong)
		checkCheck(t, times(n, api.Field{}), docErrLong)
	}
	// Only the length of the list counts.
	checkCheck(t, times(100, api.Field{Name: "a"})[:64], 0)
}

// A name, a value, a : and a space together have at most MaxText bytes.
func TestCheckLengths(t *testing.T) {
	for _, n := range []int{8191, 8192, 8193, 8194, 16384, 1 << 16, 1 << 20} {
		want := api.Errno(0)
		if n > maxText {
			want = docErrLong
		}
		for _, l := range [][]api.Field{
			list("N", strings.Repeat("v", n-3)),
			list(strings.Repeat("N", n-3), "v"),
			list(strings.Repeat("N", n-2), ""),
			list(strings.Repeat("N", n/2), strings.Repeat("v", n-2-n/2)),
		} {
			checkCheck(t, l, want)
			checkCheck(t, append(l, api.Field{Name: "a"}), want)
			checkCheck(t, append(list("a", "b"), l...), want)
			checkCheck(t, slices.Repeat(l, 3), want)
		}
	}
}

// A fault within any field comes ahead of any length, wherever both stand.
func TestCheckOrder(t *testing.T) {
	long := api.Field{Name: "a", Value: strings.Repeat("v", maxText)}
	good := api.Field{Name: "a", Value: "b"}
	for _, bad := range list("", "b", "a", " b", "a", "\x00", "a", long.Value+" ", long.Value+" ", "") {
		for _, l := range [][]api.Field{{bad}, {long, bad}, {bad, long}, {good, long, good, bad}, {bad, good, long}} {
			checkCheck(t, l, docErrField)
		}
	}
	checkCheck(t, []api.Field{good, long, good}, docErrLong)
}

// P9.2: All, Get

func TestAllAndGet(t *testing.T) {
	l := list("A", "1", "B", "x", "a", "2, c", "C", "", "a-b", "y", "", "z")
	for _, x := range []struct {
		name   string
		values []string
		got    string
	}{
		{"a", []string{"1", "2, c"}, "1, 2, c"},
		{"A", []string{"1", "2, c"}, "1, 2, c"},
		{"b", []string{"x"}, "x"},
		{"c", []string{""}, ""},
		{"A-B", []string{"y"}, "y"},
		{"", []string{"z"}, "z"},
		{"d", nil, ""},
		{"a ", nil, ""},
		{" a", nil, ""},
		{"a-", nil, ""},
		{"ab", nil, ""},
		{"a:", nil, ""},
		{"1", nil, ""},
		{"x", nil, ""},
		{"a, B", nil, ""},
	} {
		if values := All(l, x.name); !slices.Equal(values, x.values) {
			t.Errorf("All of %q is %q, want %q", x.name, values, x.values)
		}
		if got, ok := Get(l, x.name); got != x.got || ok != (len(x.values) > 0) {
			t.Errorf("Get of %q is %q, %v, want %q", x.name, got, ok, x.got)
		}
	}
}

func TestGet(t *testing.T) {
	for _, x := range []struct {
		l    []api.Field
		want string
		ok   bool
	}{
		{nil, "", false},
		{list("b", "1"), "", false},
		{list("a", "1"), "1", true},
		{list("a", "1", "a", "2"), "1, 2", true},
		{list("a", "2", "A", "1"), "2, 1", true},
		{list("A", "1", "b", "x", "a", "1", "a", "3"), "1, 1, 3", true},
		{list("a", ""), "", true},
		{list("a", "", "a", ""), ", ", true},
		{list("a", "", "a", "1"), ", 1", true},
		{list("a", "1", "a", ""), "1, ", true},
		{list("a", " 1 ", "a", ",", "a", "\x00"), " 1 , ,, \x00", true},
		{list("a", `"`, "a", `"`), `", "`, true},
	} {
		if got, ok := Get(x.l, "a"); got != x.want || ok != x.ok {
			t.Errorf("Get(%q, a) is %q, %v, want %q, %v", x.l, got, ok, x.want, x.ok)
		}
	}
}

// Only A to Z have small letters of their own.
func TestNamesOfOtherBytes(t *testing.T) {
	for _, x := range [][2]string{{"@", "`"}, {"[", "{"}, {"\xc4", "\xe4"}, {"\u00c4", "\u00e4"}, {"K", "\u212a"}, {"^", "~"}, {"\x00", " "}} {
		l := list(x[0], "v")
		if All(l, x[1]) != nil || Has(l, x[1], "v") || len(Drop(l, x[1])) != 1 || Same(l, list(x[1], "v")) {
			t.Errorf("%q and %q are the same", x[0], x[1])
		}
		if got, ok := Get(l, x[1]); got != "" || ok {
			t.Errorf("Get of %q is %q", x[1], got)
		}
		checkList(t, Set(l, api.Field{Name: x[1]}), list(x[0], "v", x[1], ""))
		if len(All(l, x[0])) != 1 || len(Drop(l, x[0])) != 0 || len(Set(l, l[0])) != 1 || !Same(l, l) {
			t.Errorf("%q and itself are not the same", x[0])
		}
	}
}

func TestAllOfAllLists(t *testing.T) {
	for _, l := range lists(4, "a", "A", "b", "ab", "") {
		for _, name := range []string{"a", "A", "B", "aB", "c", ""} {
			var want []string
			for _, f := range l {
				if alikeNames(f.Name, name) {
					want = append(want, f.Value)
				}
			}
			if got := All(l, name); !slices.Equal(got, want) {
				t.Fatalf("All(%q, %q) is %q, want %q", l, name, got, want)
			}
			got, ok := Get(l, name)
			if got != strings.Join(want, ", ") || ok != (len(want) > 0) {
				t.Fatalf("Get(%q, %q) is %q, %v, want %q", l, name, got, ok, want)
			}
			for n := range 6 {
				item := one('0' + n)
				if got := Has(l, name, item); got != slices.Contains(want, item) {
					t.Fatalf("Has(%q, %q, %q) is %v", l, name, item, got)
				}
			}
		}
	}
}

// P9.2: Has

func TestHas(t *testing.T) {
	for _, x := range []struct {
		l    []api.Field
		item string
		want bool
	}{
		{nil, "x", false},
		{nil, "", false},
		{list("a", "x"), "x", true},
		{list("A", "x"), "X", true},
		{list("a", "Close"), "cLOSE", true},
		{list("b", "x"), "x", false},
		{list("b", "x", "A", "x"), "x", true},
		{list("a", "y", "a", "x"), "x", true},
		{list("a", "x", "a", "y"), "x", true},
		{list("a", "y, x ,z"), "x", true},
		{list("a", "y", "a", "z, x"), "x", true},
		{list("a", "y", "b", "x", "a", "z"), "x", false},
		{list("a", "xy"), "x", false},
		{list("a", "x y"), "x", false},
		{list("a", "x=1"), "x", false},
		{list("a", `"x"`), "x", false},
		{list("a", `"y, x"`), "x", false},
		{list("a", ""), "", false},
		{list("a", ",,"), "", false},
		{list("a", "x", "a", "y"), "x, y", false},
		{list("a", `"x, y"`), `"X, y"`, true},
		{list("a", "*"), "*", true},
		// Each value is a list by itself, also one that is none.
		{list("a", `"x`, "a", `y"`), `"x, y"`, false},
		{list("a", `"`, "a", "x", "a", `"`), "x", true},
		{list("a", `x, "`), "x", false},
		{list("a", `x, "`, "a", "x"), "x", true},
		{list("a", "x", "a", `"`), "x", true},
		{list("a", `"`, "a", `x"`), "x", false},
	} {
		for _, name := range []string{"a", "A"} {
			if got := Has(x.l, name, x.item); got != x.want {
				t.Errorf("Has(%q, %q, %q) is %v", x.l, name, x.item, got)
			}
		}
	}
}

// P9.3: Drop

func TestDrop(t *testing.T) {
	l := list("A", "1", "B", "x", "a", "2", "C", "", "", "z", "ab", "y")
	for _, x := range []struct {
		names []string
		want  []api.Field
	}{
		{nil, l},
		{[]string{}, l},
		{[]string{"a"}, list("B", "x", "C", "", "", "z", "ab", "y")},
		{[]string{"A"}, list("B", "x", "C", "", "", "z", "ab", "y")},
		{[]string{"b"}, list("A", "1", "a", "2", "C", "", "", "z", "ab", "y")},
		{[]string{"c", "B"}, list("A", "1", "a", "2", "", "z", "ab", "y")},
		{[]string{"AB", "a"}, list("B", "x", "C", "", "", "z")},
		{[]string{""}, list("A", "1", "B", "x", "a", "2", "C", "", "ab", "y")},
		{[]string{"d", "a,b", "a ", " b", "1", "c:"}, l},
		{[]string{"a", "a", "A"}, list("B", "x", "C", "", "", "z", "ab", "y")},
		{[]string{"d", "ab", "", "C", "b", "a"}, nil},
	} {
		checkList(t, Drop(l, x.names...), x.want)
		checkList(t, Drop(nil, x.names...), nil)
	}
	checkList(t, Drop(list("a", "", "b", "", "A", ""), "a"), list("b", ""))
}

func TestDropOfAllLists(t *testing.T) {
	for _, l := range lists(4, "a", "A", "b", "ab", "") {
		for _, names := range [][]string{{}, {"a"}, {"B"}, {""}, {"Ab"}, {"b", "A"}, {"c", "AB", "b"}, {"", "a", "ab", "B"}} {
			var want []api.Field
			for _, f := range l {
				if !slices.ContainsFunc(names, func(name string) bool { return alikeNames(f.Name, name) }) {
					want = append(want, f)
				}
			}
			if got := Drop(l, names...); !slices.Equal(got, want) {
				t.Fatalf("Drop(%q, %q) is %q, want %q", l, names, got, want)
			}
		}
	}
}

// P9.3: Set

func TestSet(t *testing.T) {
	l := list("A", "1", "B", "x", "a", "2", "C", "")
	for _, x := range []struct {
		name string
		want []api.Field
	}{
		{"a", list("a", "9", "B", "x", "C", "")},
		{"A", list("A", "9", "B", "x", "C", "")},
		{"b", list("A", "1", "b", "9", "a", "2", "C", "")},
		{"c", list("A", "1", "B", "x", "a", "2", "c", "9")},
		{"d", list("A", "1", "B", "x", "a", "2", "C", "", "d", "9")},
		{"", list("A", "1", "B", "x", "a", "2", "C", "", "", "9")},
		{"a ", list("A", "1", "B", "x", "a", "2", "C", "", "a ", "9")},
	} {
		checkList(t, Set(l, api.Field{Name: x.name, Value: "9"}), x.want)
	}
	checkList(t, Set(nil, api.Field{Name: "a", Value: "b"}), list("a", "b"))
	checkList(t, Set(nil, api.Field{}), list("", ""))
	checkList(t, Set(list("b", "1", "a", "2", "A", "3", "c", "4", "a", "5"), api.Field{Name: "a"}), list("b", "1", "a", "", "c", "4"))
}

func TestSetOfAllLists(t *testing.T) {
	for _, l := range lists(4, "a", "A", "b", "ab", "") {
		for _, name := range []string{"a", "A", "B", "aB", "c", ""} {
			var want []api.Field
			f, found := api.Field{Name: name, Value: "new"}, false
			for _, old := range l {
				if !alikeNames(old.Name, name) {
					want = append(want, old)
				} else if !found {
					want, found = append(want, f), true
				}
			}
			if !found {
				want = append(want, f)
			}
			if got := Set(l, f); !slices.Equal(got, want) {
				t.Fatalf("Set(%q, %q) is %q, want %q", l, f, got, want)
			}
		}
	}
}

// P9.3: Same

func TestSame(t *testing.T) {
	for _, x := range []struct {
		a, b []api.Field
		want bool
	}{
		{nil, nil, true},
		{nil, []api.Field{}, true},
		{nil, list("", ""), false},
		{list("a", "1"), list("a", "1"), true},
		{list("a", "1"), list("A", "1"), true},
		{list("Max-Age", "1"), list("mAX-aGE", "1"), true},
		{list("a", "1"), list("b", "1"), false},
		{list("a", "1"), list("ab", "1"), false},
		{list("a", "1"), list("a", "2"), false},
		{list("a", "x"), list("a", "X"), false},
		{list("a", "x"), list("a", "x "), false},
		{list("a", "1"), list("1", "a"), false},
		{list("a", "1"), list("a", "1", "b", "2"), false},
		{list("a", "1", "a", "1"), list("a", "1"), false},
		{list("a", "1", "b", "2"), list("A", "1", "B", "2"), true},
		{list("a", "1", "b", "2"), list("b", "2", "a", "1"), false},
		{list("a", "1", "a", "2"), list("a", "2", "a", "1"), false},
		{list("a", "1", "a", "2"), list("a", "1, 2"), false},
		{list("a", "1", "b", "2"), list("a", "1", "b", "3"), false},
		{list("a", "1", "b", "2"), list("a", "0", "b", "2"), false},
		{list("a", "1", "b", "2"), list("a", "1", "c", "2"), false},
		{list("", ""), list("", ""), true},
	} {
		if Same(x.a, x.b) != x.want || Same(x.b, x.a) != x.want {
			t.Errorf("Same(%q, %q) is not %v", x.a, x.b, x.want)
		}
	}
}

func TestSameOfAllLists(t *testing.T) {
	all := lists(3, "a", "A", "b", "")
	for _, a := range all {
		for _, b := range all {
			want := len(a) == len(b)
			for i := 0; want && i < len(a); i++ {
				want = alikeNames(a[i].Name, b[i].Name) && a[i].Value == b[i].Value
			}
			if Same(a, b) != want {
				t.Fatalf("Same(%q, %q) is not %v", a, b, want)
			}
		}
	}
}

// P9.4: Parse inverts Line for fields that satisfy Check, and for no others.

func TestParseInvertsLine(t *testing.T) {
	names := slices.Concat(words("aB: \x00", 2), []string{tokens, "\xff", strings.Repeat("n", 8189), strings.Repeat("n", 8190), strings.Repeat("n", 8191)})
	values := slices.Concat(words("b: \t\x7f\xff,", 4), []string{tokens, strings.Repeat("v", 8189), strings.Repeat("v", 8190), strings.Repeat(" ", 9000)})
	passed := 0
	for _, name := range names {
		for _, value := range values {
			want := api.Field{Name: name, Value: value}
			f, e := Parse(Line(want))
			if Check([]api.Field{want}) == 0 {
				passed++
				if f != want || e != 0 {
					t.Fatalf("Parse of the line of %.60q is %.60q, %d", want, f, e)
				}
			} else if f == want && e == 0 {
				t.Fatalf("%.60q passed Parse, but not Check", want)
			}
		}
	}
	if passed < 4000 {
		t.Errorf("%d fields among them", passed)
	}
}

// What Parse answers passes Check, unless the space of its line is what is too
// much.
func TestParsedFieldsPassCheck(t *testing.T) {
	for _, line := range append(words("a: \tB\x01", 6), "a:"+strings.Repeat("v", 8189), strings.Repeat("n", 8190)+":") {
		f, e := Parse(line)
		if e != 0 {
			continue
		}
		checkCheck(t, []api.Field{f}, 0)
		checkParse(t, Line(f), f, 0)
	}
	for _, line := range []string{"a:" + strings.Repeat("v", 8190), strings.Repeat("n", 8191) + ":"} {
		f, e := Parse(line)
		if e != 0 {
			t.Errorf("Parse(%.60q) is %d", line, e)
		}
		checkCheck(t, []api.Field{f}, docErrLong)
		checkParse(t, Line(f), api.Field{}, docErrLong)
	}
}

// P9.4: Drop and Set change only the fields of the given names, and Get answers
// what was set.

func TestSetAndDropLeaveOthers(t *testing.T) {
	names := []string{"a", "B", "c", "Ab", ""}
	for _, l := range lists(5, "a", "A", "b", "aB") {
		for _, name := range names {
			dropped, set := Drop(l, name), Set(l, api.Field{Name: name, Value: "new, er"})
			if got, ok := Get(dropped, name); got != "" || ok {
				t.Fatalf("%q is left in %q", name, dropped)
			}
			if got, ok := Get(set, name); got != "new, er" || !ok || !Has(set, name, "ER") {
				t.Fatalf("Get(%q, %q) is %q, %v", set, name, got, ok)
			}
			if !slices.Equal(Drop(set, name), dropped) {
				t.Fatalf("Set of %q in %q leaves %q", name, l, set)
			}
			for _, other := range names {
				if alikeNames(other, name) {
					continue
				}
				if want := All(l, other); !slices.Equal(All(dropped, other), want) || !slices.Equal(All(set, other), want) {
					t.Fatalf("%q of %q has become %q, %q", other, l, dropped, set)
				}
			}
		}
	}
}

// R3: arguments stay, also behind their ends, and results share nothing.

func TestArgumentsStay(t *testing.T) {
	for n := range 7 {
		whole := list("b", "1", "a", "2", "A", "3", "c", "4", "a", "5", "d", "6")
		want := slices.Clone(whole)
		l := whole[:n]
		names := []string{"A", "x", "c"}
		for _, got := range [][]api.Field{
			Drop(l), Drop(l, "x"), Drop(l, names...), Drop(l, "a"),
			Set(l, api.Field{Name: "a", Value: "9"}), Set(l, api.Field{Name: "x", Value: "9"}), Set(l, api.Field{Name: "b"}),
		} {
			for i := range got[:cap(got)] {
				got[:cap(got)][i] = api.Field{Name: "other", Value: "other"}
			}
		}
		Check(l)
		All(l, "a")
		Get(l, "a")
		Has(l, "a", "3")
		Same(l, whole)
		checkList(t, whole, want)
		if !slices.Equal(names, []string{"A", "x", "c"}) {
			t.Errorf("the names are %q", names)
		}
	}
}

func TestResultsAreNew(t *testing.T) {
	l := list("a", "1", "b", "2", "a", "3")
	first, values, set := Drop(l), All(l, "a"), Set(l, api.Field{Name: "b", Value: "4"})
	first[0].Value, values[0], set[0].Value = "x", "x", "x"
	checkList(t, Drop(l), l)
	checkList(t, Set(l, api.Field{Name: "b", Value: "4"}), list("a", "1", "b", "4", "a", "3"))
	if got := All(l, "a"); !slices.Equal(got, []string{"1", "3"}) {
		t.Errorf("All is %q", got)
	}
}

// R1: great lists and strange texts.

func TestGreatLists(t *testing.T) {
	const many = 100000
	l := times(many, api.Field{Name: "Name", Value: "v"})
	if got := All(l, "nAME"); len(got) != many || got[many-1] != "v" {
		t.Errorf("%d values", len(got))
	}
	if got, ok := Get(l, "name"); len(got) != 3*many-2 || !ok {
		t.Errorf("a value of %d bytes", len(got))
	}
	if Has(l, "name", "w") || !Has(append(l, api.Field{Name: "NAME", Value: "x, w"}), "name", "w") {
		t.Error("Has of the last")
	}
	if got := Drop(l, "n", "NAME"); len(got) != 0 {
		t.Errorf("%d fields", len(got))
	}
	if got := Drop(l, make([]string, 50)...); len(got) != many {
		t.Errorf("%d fields", len(got))
	}
	if got := Set(l, api.Field{Name: "name", Value: "w"}); len(got) != 1 || got[0].Value != "w" {
		t.Errorf("%d fields", len(got))
	}
	if !Same(l, slices.Clone(l)) || Same(l, l[1:]) {
		t.Error("Same of many")
	}
	checkCheck(t, l, docErrLong)
}

func TestStrangeFields(t *testing.T) {
	r := rand.New(rand.NewSource(91))
	strange := func() string {
		b := make([]byte, r.Intn(5))
		for i := range b {
			if b[i] = byte(r.Intn(256)); r.Intn(3) > 0 {
				b[i] = "aA\", "[r.Intn(5)]
			}
		}
		return string(b)
	}
	for range 20000 {
		l := make([]api.Field, r.Intn(5))
		for i := range l {
			l[i] = api.Field{Name: strange(), Value: strange()}
		}
		f := api.Field{Name: strange(), Value: strange()}
		checkCheck(t, l, toldCheck(l))
		if got, ok := Get(Set(l, f), f.Name); got != f.Value || !ok {
			t.Fatalf("Get of %q set in %q is %q, %v", f, l, got, ok)
		}
		if len(Drop(l, f.Name))+len(All(l, f.Name)) != len(l) {
			t.Fatalf("Drop and All of %q in %q", f.Name, l)
		}
		Has(l, f.Name, f.Value)
		if !Same(l, Drop(l)) {
			t.Fatalf("%q is not the Same", l)
		}
	}
}
