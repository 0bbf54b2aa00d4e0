package items

import (
	"math/rand"
	"regexp"
	"slices"
	"strings"
	"testing"

	"depot/api"
)

// The number that the document gives to a text that is not well-formed, and the
// bytes of a token, written out, so that a test does not lean on what the
// package uses.
const (
	docErrForm = 5
	tokens     = "0123456789abcdefghijklmnopqrstuvwxyzABCDEFGHIJKLMNOPQRSTUVWXYZ!#$%&'*+-.^_`|~"
)

// What a list and a quoted string are, by the words of the document alone: a
// quoted part, an element, a whole list, a whole quoted string, a \ and what
// belongs to it.
const (
	partForm = `"(?:[^"\\]|\\.)*"`
	elemForm = `(?:[^",]|` + partForm + `)+`
	listForm = `^(?:[^"]|` + partForm + `)*$`
)

var (
	elementOf = regexp.MustCompile(`(?s)` + elemForm)
	isList    = regexp.MustCompile(`(?s)` + listForm)
	isQuoted  = regexp.MustCompile(`(?s)^` + partForm + `$`)
	pairOf    = regexp.MustCompile(`(?s)\\(.)`)
	isToken   = regexp.MustCompile("^[0-9A-Za-z!#$%&'*+.^_`|~-]+$")
)

// toldSplit answers a list's elements by those words.
func toldSplit(s string) ([]string, bool) {
	if !isList.MatchString(s) {
		return nil, false
	}
	var l []string
	for _, e := range elementOf.FindAllString(s, -1) {
		if e = strings.Trim(e, " \t"); e != "" {
			l = append(l, e)
		}
	}
	return l, true
}

// toldUnquote answers what a quoted string denotes by those words.
func toldUnquote(s string) (string, bool) {
	if !isQuoted.MatchString(s) {
		return "", false
	}
	return pairOf.ReplaceAllString(s[1:len(s)-1], "$1"), true
}

// param is what Param answers.
type param struct {
	name, value string
	has         bool
	code        api.Errno
}

// asParam asks Param.
func asParam(s string) param {
	name, value, has, code := Param(s)
	return param{name, value, has, code}
}

// toldParam answers an element's name and value by the words of the document.
func toldParam(s string) param {
	l := strings.SplitN(s, "=", 2)
	if !isToken.MatchString(l[0]) {
		return param{code: docErrForm}
	}
	p := param{name: strings.ToLower(l[0])}
	if len(l) == 1 {
		return p
	}
	p.has, p.value = true, l[1]
	if isToken.MatchString(p.value) {
		return p
	}
	v, ok := toldUnquote(p.value)
	if !ok {
		return param{code: docErrForm}
	}
	p.value = v
	return p
}

// words answers all texts of at most most bytes of an alphabet.
func words(alphabet string, most int) []string {
	all := []string{""}
	last := all
	for range most {
		var next []string
		for _, w := range last {
			for i := range len(alphabet) {
				next = append(next, w+alphabet[i:i+1])
			}
		}
		all = append(all, next...)
		last = next
	}
	return all
}

// bytes256 answers a text of each byte once, in order.
func bytes256() string {
	b := make([]byte, 256)
	for i := range b {
		b[i] = byte(i)
	}
	return string(b)
}

// strange answers texts of bytes that come as they come, with many marks among
// them.
func strange(count, most int) []string {
	r := rand.New(rand.NewSource(6))
	const marks = "\"\\,= \tab"
	all := make([]string, count)
	for i := range all {
		b := make([]byte, r.Intn(most+1))
		for j := range b {
			if b[j] = byte(r.Intn(256)); r.Intn(3) > 0 {
				b[j] = marks[r.Intn(len(marks))]
			}
		}
		all[i] = string(b)
	}
	return all
}

// P6.1: Split

func TestSplit(t *testing.T) {
	for _, row := range []struct {
		s    string
		want []string
	}{
		{`a, "b,c" , ,d`, []string{`a`, `"b,c"`, `d`}},
		{`a`, []string{`a`}},
		{`a,b`, []string{`a`, `b`}},
		{`a, b`, []string{`a`, `b`}},
		{`a b,c`, []string{`a b`, `c`}},
		{`B,a,B`, []string{`B`, `a`, `B`}},
		{`max-age=60, private="Set-Cookie, X"`, []string{`max-age=60`, `private="Set-Cookie, X"`}},
		{"a\n,\rb\v", []string{"a\n", "\rb\v"}},
		{"\x00,\xff", []string{"\x00", "\xff"}},
		{"\u00a0,\u3000", []string{"\u00a0", "\u3000"}},
	} {
		if l, e := Split(row.s); e != 0 || !slices.Equal(l, row.want) {
			t.Errorf("Split(%q) is %q, %d, want %q", row.s, l, e, row.want)
		}
	}
}

func TestSplitTrims(t *testing.T) {
	for _, blank := range words(" \t", 3) {
		for _, s := range []string{
			blank + "a" + blank + "," + blank + "b c" + blank,
			blank + "," + blank + "a" + blank + "," + blank + "b c",
			"a," + blank + ",b c" + blank + "," + blank + ",",
		} {
			if l, e := Split(s); e != 0 || !slices.Equal(l, []string{"a", "b c"}) {
				t.Errorf("Split(%q) is %q, %d", s, l, e)
			}
		}
	}
}

func TestSplitOfNothing(t *testing.T) {
	for _, s := range words(", \t", 6) {
		if l, e := Split(s); e != 0 || len(l) != 0 {
			t.Errorf("Split(%q) is %q, %d", s, l, e)
		}
	}
}

func TestSplitOfQuotedParts(t *testing.T) {
	for _, row := range []struct {
		s    string
		want []string
	}{
		{`""`, []string{`""`}},
		{`"",""`, []string{`""`, `""`}},
		{`","`, []string{`","`}},
		{`" a , b "`, []string{`" a , b "`}},
		{` " " , " " `, []string{`" "`, `" "`}},
		{`"a\",b",c`, []string{`"a\",b"`, `c`}},
		{`"a\\",b`, []string{`"a\\"`, `b`}},
		{`"a\\\",b",c`, []string{`"a\\\",b"`, `c`}},
		{`"a\,b",c`, []string{`"a\,b"`, `c`}},
		{`"\a",c`, []string{`"\a"`, `c`}},
		{`a"b,c"d,e`, []string{`a"b,c"d`, `e`}},
		{`a"b,c","d,e"f`, []string{`a"b,c"`, `"d,e"f`}},
		{`"a,b""c,d"`, []string{`"a,b""c,d"`}},
		{`"a"b,c"d"`, []string{`"a"b`, `c"d"`}},
		{`a="x,y";b="z,",c`, []string{`a="x,y";b="z,"`, `c`}},
		{"\"\n,\x00\xff\",c", []string{"\"\n,\x00\xff\"", "c"}},
	} {
		if l, e := Split(row.s); e != 0 || !slices.Equal(l, row.want) {
			t.Errorf("Split(%q) is %q, %d, want %q", row.s, l, e, row.want)
		}
	}
}

// Outside of a quoted part a \ is a byte as others are.
func TestSplitOfSlashesOutside(t *testing.T) {
	for _, row := range []struct {
		s    string
		want []string
	}{
		{`a\,b`, []string{`a\`, `b`}},
		{`\,\`, []string{`\`, `\`}},
		{`\"a,b",c`, []string{`\"a,b"`, `c`}},
		{`"a"\,b`, []string{`"a"\`, `b`}},
		{`a\\,b`, []string{`a\\`, `b`}},
	} {
		if l, e := Split(row.s); e != 0 || !slices.Equal(l, row.want) {
			t.Errorf("Split(%q) is %q, %d, want %q", row.s, l, e, row.want)
		}
	}
}

// Inside, whatever byte is behind a \ belongs to it.
func TestSplitOfSlashesInside(t *testing.T) {
	for _, c := range []byte(bytes256()) {
		s := "\"\\" + string([]byte{c}) + ",\",x"
		want := []string{s[:len(s)-2], "x"}
		if l, e := Split(s); e != 0 || !slices.Equal(l, want) {
			t.Errorf("Split(%q) is %q, %d, want %q", s, l, e, want)
		}
	}
}

func TestSplitWithoutEnd(t *testing.T) {
	for _, s := range []string{
		`"`, `a"`, `"a`, `a,"b`, `"a,b`, `"a\"`, `"a\`, `"\`, `"\\\"`, `"""`, `"a" "`,
		`a,b,"c,d`, `"a",b"`, `a,b,c"`, `\"`, `"a\\\`, `"a","b\",c`, ` , "`, `a"b"c"d`,
	} {
		if l, e := Split(s); e != docErrForm || len(l) != 0 {
			t.Errorf("Split(%q) is %q, %d", s, l, e)
		}
	}
}

func TestSplitByTheDocument(t *testing.T) {
	for _, s := range slices.Concat(words("\",\\a ", 7), words("\",\t\\", 7), strange(20000, 24)) {
		want, ok := toldSplit(s)
		l, e := Split(s)
		if ok != (e == 0) || !ok && e != docErrForm || !slices.Equal(l, want) {
			t.Fatalf("Split(%q) is %q, %d, want %q, %v", s, l, e, want, ok)
		}
	}
}

func TestSplitOfLongLists(t *testing.T) {
	const many = 100000
	l, e := Split(strings.Repeat("a\t,,", many))
	if e != 0 || len(l) != many || l[0] != "a" || l[many-1] != "a" {
		t.Errorf("%d elements, %d", len(l), e)
	}
	s := `"` + strings.Repeat(`\",`, many) + `"`
	if l, e := Split(s); e != 0 || len(l) != 1 || l[0] != s {
		t.Errorf("%d elements of one, %d", len(l), e)
	}
	if l, e := Split(strings.Repeat(`"a",`, many) + `"`); e != docErrForm || len(l) != 0 {
		t.Errorf("%d elements, %d", len(l), e)
	}
}

// P6.1: Join

func TestJoin(t *testing.T) {
	for _, row := range []struct {
		l    []string
		want string
	}{
		{nil, ""},
		{[]string{}, ""},
		{[]string{"a"}, "a"},
		{[]string{"a", "b"}, "a, b"},
		{[]string{"a", `"b,c"`, "d"}, `a, "b,c", d`},
		{[]string{""}, ""},
		{[]string{"", ""}, ", "},
		{[]string{" a ", ",", `"`}, ` a , ,, "`},
		{[]string{"\x00", "\xff"}, "\x00, \xff"},
	} {
		if got := Join(row.l); got != row.want {
			t.Errorf("Join(%q) is %q, want %q", row.l, got, row.want)
		}
	}
}

func TestJoinLeavesItsList(t *testing.T) {
	whole := []string{"b", "a", "c", "kept"}
	if got := Join(whole[:3]); got != "b, a, c" {
		t.Errorf("Join is %q", got)
	}
	if !slices.Equal(whole, []string{"b", "a", "c", "kept"}) {
		t.Errorf("the list is %q", whole)
	}
}

// P6.1: Has

func TestHas(t *testing.T) {
	for _, row := range []struct {
		s, name string
		want    bool
	}{
		{"x, Close", "close", true},
		{"x, close", "CLOSE", true},
		{"CLOSE", "cLoSe", true},
		{"close,x", "close", true},
		{"a\t,  close\t,x", "Close", true},
		{"x, y", "close", false},
		{"closed", "close", false},
		{"close", "closed", false},
		{"x close", "close", false},
		{"close;q=1", "close", false},
		{`"close"`, "close", false},
		{`"close"`, `"CLOSE"`, true},
		{`"a, close, b"`, "close", false},
		{`"A,b", c`, `"a,B"`, true},
		{"a, b", "a, b", false},
		{"a b", "A B", true},
		{"", "", false},
		{",", "", false},
		{"a,,b", "", false},
		{" ", " ", false},
		{"a, b", " b", false},
		{"a, b", "b ", false},
		{"", "a", false},
		{"\xc3\x84", "\xc3\xa4", false},
		{"[", "{", false},
		{"@", "`", false},
		{"\xc1", "\xe1", false},
	} {
		if got := Has(row.s, row.name); got != row.want {
			t.Errorf("Has(%q, %q) is %v", row.s, row.name, got)
		}
	}
}

// A list that Split refuses has no elements, not even those ahead of the fault.
func TestHasOfNoList(t *testing.T) {
	for _, s := range []string{`close, "`, `close,"a`, `close, "a\"`, `", close`, `"`} {
		for _, name := range []string{"close", "", `"`, "a", `"a`} {
			if Has(s, name) {
				t.Errorf("Has(%q, %q) is true", s, name)
			}
		}
	}
}

func TestHasByTheDocument(t *testing.T) {
	names := words("aB\",", 2)
	for _, s := range words("aAb\", ", 5) {
		l, _ := toldSplit(s)
		for _, name := range names {
			want := slices.ContainsFunc(l, func(e string) bool {
				return strings.ToLower(e) == strings.ToLower(name)
			})
			if got := Has(s, name); got != want {
				t.Fatalf("Has(%q, %q) is %v", s, name, got)
			}
		}
	}
}

// P6.2: Quote

func TestQuote(t *testing.T) {
	for _, row := range []struct{ s, want string }{
		{``, `""`},
		{`a`, `"a"`},
		{`a b, c`, `"a b, c"`},
		{`"`, `"\""`},
		{`\`, `"\\"`},
		{`\"`, `"\\\""`},
		{`"a"`, `"\"a\""`},
		{`a\`, `"a\\"`},
		{"\x00\t\n\x7f\xff", "\"\x00\t\n\x7f\xff\""},
	} {
		if got := Quote(row.s); got != row.want {
			t.Errorf("Quote(%q) is %q, want %q", row.s, got, row.want)
		}
	}
}

func TestQuoteOfEachByte(t *testing.T) {
	for _, c := range []byte(bytes256()) {
		s := string([]byte{c})
		want := `"` + s + `"`
		if c == 34 || c == 92 {
			want = `"` + string([]byte{92, c}) + `"`
		}
		if got := Quote(s); got != want {
			t.Errorf("Quote(%q) is %q, want %q", s, got, want)
		}
	}
}

// P6.2: Unquote

func TestUnquote(t *testing.T) {
	for _, row := range []struct{ s, want string }{
		{`""`, ``},
		{`"a"`, `a`},
		{`" a, b "`, ` a, b `},
		{`"\""`, `"`},
		{`"\\"`, `\`},
		{`"\a"`, `a`},
		{`"\,\ "`, `, `},
		{`"\\\""`, `\"`},
		{`"a\\\\b"`, `a\\b`},
		{`"\\a"`, `\a`},
		{`"a=b"`, `a=b`},
		{"\"\\\x00\\\xff\n\"", "\x00\xff\n"},
		{"\"\\\xc3\xa4\"", "\xc3\xa4"},
	} {
		if got, e := Unquote(row.s); got != row.want || e != 0 {
			t.Errorf("Unquote(%q) is %q, %d, want %q", row.s, got, e, row.want)
		}
	}
}

func TestUnquoteOfEachByte(t *testing.T) {
	for _, c := range []byte(bytes256()) {
		s := string([]byte{c})
		if got, e := Unquote(`"\` + s + `"`); got != s || e != 0 {
			t.Errorf("Unquote of a \\ and %q is %q, %d", s, got, e)
		}
		got, e := Unquote(`"` + s + `"`)
		if c == 34 || c == 92 {
			s = ""
		}
		if got != s || (e == 0) != (s != "") || e != 0 && e != docErrForm {
			t.Errorf("Unquote of the byte %d is %q, %d", c, got, e)
		}
	}
}

func TestUnquoteOfOthers(t *testing.T) {
	for _, s := range []string{
		``, `"`, `a`, ` `, `"a`, `a"`, `"a"b`, `a"b"`, ` "a"`, `"a" `, "\t\"a\"", `"a"b"`, `"a""b"`, `""""`,
		`"""`, `"a","b"`, `"a" "b"`, `"\"`, `"a\"`, `"a\`, `"\`, `\"a"`, `\`, `'a'`, `"\\\"`, `"a\\"b"`, `"a"\`, `""a`,
	} {
		if got, e := Unquote(s); got != "" || e != docErrForm {
			t.Errorf("Unquote(%q) is %q, %d", s, got, e)
		}
	}
}

func TestUnquoteByTheDocument(t *testing.T) {
	all := slices.Concat(words("\"\\a,", 8), words("\"\\ ", 9), strange(20000, 12))
	for _, s := range all {
		for _, s := range []string{s, `"` + s + `"`} {
			want, ok := toldUnquote(s)
			got, e := Unquote(s)
			if got != want || ok != (e == 0) || !ok && e != docErrForm {
				t.Fatalf("Unquote(%q) is %q, %d, want %q, %v", s, got, e, want, ok)
			}
		}
	}
}

// P6.3: Param

func TestParam(t *testing.T) {
	for _, row := range []struct {
		s    string
		want param
	}{
		{`Max-Age="60"`, param{"max-age", "60", true, 0}},
		{`max-age=60`, param{"max-age", "60", true, 0}},
		{`No-Cache`, param{"no-cache", "", false, 0}},
		{`a`, param{"a", "", false, 0}},
		{`A=B`, param{"a", "B", true, 0}},
		{`A="B"`, param{"a", "B", true, 0}},
		{`a=""`, param{"a", "", true, 0}},
		{`a="b=c"`, param{"a", "b=c", true, 0}},
		{`a=" b , c "`, param{"a", " b , c ", true, 0}},
		{`a="\"\\\b"`, param{"a", `"\b`, true, 0}},
		{`private="Set-Cookie, X"`, param{"private", "Set-Cookie, X", true, 0}},
		{"a=\"\x00\n\xff\"", param{"a", "\x00\n\xff", true, 0}},
		{`!#=~|`, param{"!#", "~|", true, 0}},
		{tokens, param{strings.ToLower(tokens), "", false, 0}},
		{tokens + "=" + tokens, param{strings.ToLower(tokens), tokens, true, 0}},
	} {
		if got := asParam(row.s); got != row.want {
			t.Errorf("Param(%q) is %#v, want %#v", row.s, got, row.want)
		}
	}
}

func TestParamOfOthers(t *testing.T) {
	for _, s := range []string{
		``, `=`, `=1`, `="a"`, `==`, `a=`, `a==`, `a==b`, `a=b=c`, `a=b=`, `a =1`, `a= 1`, `a = 1`, `a=1 `, ` a=1`, ` a`, `a `,
		`a b`, `a b=1`, `a=b c`, `a="b" `, `a= "b"`, "a\t=1", "a=\t1", "a=1\t", `"a"`, `"a"=1`, `"a=b"`, `a"=1`, `a="b`, `a=b"`,
		`a="`, `a="\"`, `a="b\"`, `a="b"c`, `a=b"c"`, `a="b""c"`, `a="b"="c"`, `a,b`, `a,b=1`, `a=b,c`, `a;b=1`, `a=1;b`, `a="1";b`,
		`a/b`, `a=b/c`, `a=(b)`, `a=\b`, `a\=b`, "\x00", "a\x00=1", "a=\xff", "\xc3\xa4=1", `a=[1]`, `a={1}`, "a\n=1", "a=1\n",
	} {
		if got := asParam(s); got != (param{code: docErrForm}) {
			t.Errorf("Param(%q) is %#v", s, got)
		}
	}
}

// Each byte by itself: as a name, within one, as a value, within one.
func TestParamOfEachByte(t *testing.T) {
	for _, c := range []byte(bytes256()) {
		s := string([]byte{c})
		for _, s := range []string{s, s + "=1", "a" + s, s + "a", "a" + s + "b=1", "a=" + s, "a=b" + s, "a=" + s + "b", `a="` + s + `"`, `a="\` + s + `"`} {
			if got, want := asParam(s), toldParam(s); got != want {
				t.Errorf("Param(%q) is %#v, want %#v", s, got, want)
			}
		}
	}
}

func TestParamByTheDocument(t *testing.T) {
	for _, s := range slices.Concat(words("aB=\"\\", 7), words("A= \"", 7), strange(20000, 10)) {
		for _, s := range []string{s, "Name=" + s, `Name="` + s + `"`} {
			if got, want := asParam(s), toldParam(s); got != want {
				t.Fatalf("Param(%q) is %#v, want %#v", s, got, want)
			}
		}
	}
}

// P6.4: Unquote inverts Quote

func TestUnquoteInvertsQuote(t *testing.T) {
	all := slices.Concat(words("\"\\a", 8), words(", =\x00\xff", 5), strange(20000, 40))
	all = append(all, bytes256(), strings.Repeat(bytes256(), 50), strings.Repeat(`"`, 9000), strings.Repeat(`\`, 9001))
	for _, s := range all {
		q := Quote(s)
		if got, e := Unquote(q); got != s || e != 0 {
			t.Fatalf("Unquote(%q) is %q, %d, want %q", q, got, e, s)
		}
		if got, e := Unquote(Quote(q)); got != q || e != 0 {
			t.Fatalf("Unquote of %q quoted is %q, %d", q, got, e)
		}
	}
}

// So a value that was quoted is found again, whatever it is.
func TestParamInvertsQuote(t *testing.T) {
	for _, s := range slices.Concat(words("\"\\,= ", 5), strange(5000, 40), []string{bytes256()}) {
		want := param{"a-b", s, true, 0}
		if got := asParam("A-b=" + Quote(s)); got != want {
			t.Fatalf("Param of %q quoted is %#v", s, got)
		}
	}
}

// P6.4: Split inverts Join

// elementsOf answers tokens and quoted strings of all kinds.
func elementsOf() []string {
	l := []string{"a", "B", "!", "max-age", tokens}
	for _, s := range words("\"\\,", 2) {
		l = append(l, Quote(s))
	}
	return append(l, `" "`, `"a"`, `"\a"`, `"\,"`, Quote(bytes256()))
}

func TestSplitInvertsJoin(t *testing.T) {
	all := elementsOf()
	lists := [][]string{nil}
	for _, a := range all {
		lists = append(lists, []string{a})
		for _, b := range all {
			lists = append(lists, []string{a, b})
			for _, c := range all {
				lists = append(lists, []string{a, b, c})
			}
		}
	}
	for _, want := range lists {
		if l, e := Split(Join(want)); e != 0 || !slices.Equal(l, want) {
			t.Fatalf("Split(%q) is %q, %d, want %q", Join(want), l, e, want)
		}
	}
}

func TestSplitInvertsJoinOfManyStrings(t *testing.T) {
	r := rand.New(rand.NewSource(4))
	quoted := strange(3000, 30)
	for range 3000 {
		want := make([]string, r.Intn(20))
		for i := range want {
			if from := r.Intn(len(tokens)); r.Intn(2) > 0 {
				want[i] = tokens[from : from+1+r.Intn(len(tokens)-from)]
			} else {
				want[i] = Quote(quoted[r.Intn(len(quoted))])
			}
		}
		if l, e := Split(Join(want)); e != 0 || !slices.Equal(l, want) {
			t.Fatalf("Split(%q) is %q, %d, want %q", Join(want), l, e, want)
		}
	}
}

// And whatever Split answers is told again by Join so that it is read alike.
func TestSplitOfJoinedAgain(t *testing.T) {
	for _, s := range slices.Concat(words("\",\\a ", 6), strange(5000, 24)) {
		want, e := Split(s)
		if e != 0 {
			continue
		}
		if l, e := Split(Join(want)); e != 0 || !slices.Equal(l, want) {
			t.Fatalf("Split(%q) is %q, %d, want %q", Join(want), l, e, want)
		}
	}
}

// Has finds each of the elements that were joined.
func TestHasOfJoined(t *testing.T) {
	all := elementsOf()
	s := Join(all)
	for _, e := range all {
		if !Has(s, e) {
			t.Errorf("Has(%q, %q) is false", s, e)
		}
	}
	if Has(s, "min-age") || Has(s, "") {
		t.Error("an element that is not there")
	}
}
