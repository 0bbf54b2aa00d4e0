package vary

import (
	"math/rand"
	"regexp"
	"slices"
	"sort"
	"strings"
	"testing"

	"depot/api"
)

// What a list, an element and a token are, by the words of the document alone.
const (
	listForm = `(?s)^(?:[^"]|"(?:[^"\\]|\\.)*")*$`
	elemForm = `(?s)(?:[^",]|"(?:[^"\\]|\\.)*")+`
	nameForm = "^[!#$%&'*+\\-.^_`|~0-9A-Za-z]+$"
	runForm  = `[ \t]+`
)

var (
	isList    = regexp.MustCompile(listForm)
	elementOf = regexp.MustCompile(elemForm)
	isToken   = regexp.MustCompile(nameForm)
	blankRun  = regexp.MustCompile(runForm)
)

// lower makes the letters A to Z of a text small, and no others.
func lower(s string) string {
	b := []byte(s)
	for i, c := range b {
		if c >= 65 && c <= 90 {
			b[i] = c + 32
		}
	}
	return string(b)
}

// toldNames answers the names of Vary by those words.
func toldNames(l []api.Field) ([]string, bool) {
	var names []string
	for _, f := range l {
		if lower(f.Name) != "vary" {
			continue
		}
		if !isList.MatchString(f.Value) {
			return nil, false
		}
		for _, e := range elementOf.FindAllString(f.Value, -1) {
			e = strings.Trim(e, " \t")
			if e == "" {
				continue
			}
			if e == "*" || !isToken.MatchString(e) {
				return nil, false
			}
			names = append(names, lower(e))
		}
	}
	sort.Strings(names)
	return slices.Compact(names), true
}

// toldPicks answers what a request has of some names by those words.
func toldPicks(names []string, l []api.Field) []api.Pick {
	var picks []api.Pick
	for _, name := range names {
		var values []string
		for _, f := range l {
			if lower(f.Name) == lower(name) {
				values = append(values, blankRun.ReplaceAllString(f.Value, " "))
			}
		}
		picks = append(picks, api.Pick{Name: name, Has: values != nil, Value: strings.Join(values, ", ")})
	}
	return picks
}

// toldSame tells by those words whether picks are the same.
func toldSame(a, b []api.Pick) bool {
	same := len(a) == len(b)
	for i := 0; same && i < len(a); i++ {
		same = a[i].Name == b[i].Name && a[i].Has == b[i].Has && a[i].Value == b[i].Value
	}
	return same
}

// toldMatch tells by those words whether a request has the same picks.
func toldMatch(p []api.Pick, l []api.Field) bool {
	var names []string
	for _, pick := range p {
		names = append(names, pick.Name)
	}
	return toldSame(toldPicks(names, l), p)
}

// says answers fields Vary of some values.
func says(values ...string) []api.Field {
	var l []api.Field
	for _, value := range values {
		l = append(l, api.Field{Name: "Vary", Value: value})
	}
	return l
}

// request answers the fields of names and values that follow one another.
func request(texts ...string) []api.Field {
	var l []api.Field
	for i := 0; i+1 < len(texts); i += 2 {
		l = append(l, api.Field{Name: texts[i], Value: texts[i+1]})
	}
	return l
}

// has answers the pick of a name that a request has.
func has(name, value string) api.Pick {
	return api.Pick{Name: name, Has: true, Value: value}
}

// lacks answers the pick of a name that a request does not have.
func lacks(name string) api.Pick {
	return api.Pick{Name: name}
}

// bytes256 answers each byte once, in order, each as a text.
func bytes256() []string {
	l := make([]string, 256)
	for i := range l {
		l[i] = string([]byte{byte(i)})
	}
	return l
}

// words answers all texts of at most most bytes of an alphabet.
func words(alphabet string, most int) []string {
	all := []string{""}
	last := all
	for range most {
		var next []string
		for _, w := range last {
			for i := range len(alphabet) {
				next = append(next, w+alphabet[i:i+1])
			}
		}
		all = append(all, next...)
		last = next
	}
	return all
}

// strange answers texts of any bytes, with many of some marks among them.
func strange(count, most int, marks string) []string {
	r := rand.New(rand.NewSource(15))
	all := make([]string, count)
	for i := range all {
		b := make([]byte, r.Intn(most+1))
		for j := range b {
			if b[j] = byte(r.Intn(256)); r.Intn(8) > 0 {
				b[j] = marks[r.Intn(len(marks))]
			}
		}
		all[i] = string(b)
	}
	return all
}

// checkNames holds Names against what it is to answer.
func checkNames(t *testing.T, l []api.Field, want []string, ok bool) {
	t.Helper()
	before := slices.Clone(l)
	if names, is := Names(l); !slices.Equal(names, want) || is != ok || !is && names != nil {
		t.Fatalf("Names(%q) is %q, %v, want %q, %v", l, names, is, want, ok)
	}
	if !slices.Equal(l, before) {
		t.Fatalf("Names changed %q into %q", before, l)
	}
}

// checkPicks holds Picks against what it is to answer.
func checkPicks(t *testing.T, names []string, l []api.Field, want []api.Pick) {
	t.Helper()
	of, before := slices.Clone(names), slices.Clone(l)
	if p := Picks(names, l); !slices.Equal(p, want) {
		t.Fatalf("Picks(%q, %q) is %+v, want %+v", names, l, p, want)
	}
	if !slices.Equal(names, of) || !slices.Equal(l, before) {
		t.Fatalf("Picks changed %q, %q into %q, %q", of, before, names, l)
	}
}

// checkMatch holds Match against what it is to answer.
func checkMatch(t *testing.T, p []api.Pick, l []api.Field, want bool) {
	t.Helper()
	of, before := slices.Clone(p), slices.Clone(l)
	if got := Match(p, l); got != want {
		t.Fatalf("Match(%+v, %q) is %v", p, l, got)
	}
	if !slices.Equal(p, of) || !slices.Equal(l, before) {
		t.Fatalf("Match changed %+v, %q into %+v, %q", of, before, p, l)
	}
}

// P15.1: Names

func TestNames(t *testing.T) {
	for _, row := range []struct {
		l    []api.Field
		want []string
	}{
		{says("B, a", "A"), []string{"a", "b"}},
		{nil, nil},
		{[]api.Field{}, nil},
		{says(""), nil},
		{says(" \t,, ,"), nil},
		{says("a"), []string{"a"}},
		{says("A"), []string{"a"}},
		{says("a", ""), []string{"a"}},
		{says("", "a"), []string{"a"}},
		{says("Accept-Encoding"), []string{"accept-encoding"}},
		{says("c,b,a"), []string{"a", "b", "c"}},
		{says("a", "c", "b"), []string{"a", "b", "c"}},
		{says("b, d", "c, a"), []string{"a", "b", "c", "d"}},
		{says("a,a", "a"), []string{"a"}},
		{says("b,A,a,B,b,a"), []string{"a", "b"}},
		{says(" \ta\t , ,\tb "), []string{"a", "b"}},
		{says("ab, a, aa, b"), []string{"a", "aa", "ab", "b"}},
		{says("Z, a, _"), []string{"_", "a", "z"}},
		{says("~, a, |, 9, -, !, ^"), []string{"!", "-", "9", "^", "a", "|", "~"}},
		{says("a-b, a, a!"), []string{"a", "a!", "a-b"}},
		{says("a10, a9"), []string{"a10", "a9"}},
		{says("**, *a, a*"), []string{"**", "*a", "a*"}},
		{says("vary"), []string{"vary"}},
	} {
		checkNames(t, row.l, row.want, true)
	}
}

// The name of the field may be written in any case, and no other field counts,
// whatever it has.
func TestNamesOfVaryAlone(t *testing.T) {
	for _, name := range []string{"Vary", "vary", "VARY", "vARY", "vaRy"} {
		checkNames(t, request(name, "b", "x", "*", name, "a"), []string{"a", "b"}, true)
		checkNames(t, request("x", "a", name, "*"), nil, false)
	}
	for _, name := range []string{"", "Var", "Varyx", "X-Vary", "Vary ", " Vary", "Vary:", "V\u00e4ry", "v\x01ry", "VAR\x19", "Accept", "*"} {
		for _, value := range []string{"a", "*", "a b", `"`} {
			checkNames(t, request(name, value), nil, true)
			checkNames(t, request(name, value, "Vary", "b", name, value), []string{"b"}, true)
		}
	}
}

func TestNamesOfNone(t *testing.T) {
	for _, value := range []string{
		`*`, ` *`, "*\t", `*,`, `,*`, `*,*`, `a,*`, `*,a`, `a, * ,b`, `a b`, `a b, c`, `c, a b`, "a\tb", `* *`, `* a`,
		`"`, `"a`, `a"`, `a,"`, `",a`, `"\"`, `"\`, `a, "b`, `"a"`, `""`, `"a,b"`, `a,"b"`, `"a" , b`, `a"b"`, `"*"`, `"a""b"`, `"\""`,
		`a=b`, `a;b`, `a:b`, `a/b`, `a\b`, `\`, `a,\,b`, `(a)`, `a@b`, `[a]`, `{a}`, `<a>`, `a?`, `W/"a"`,
		"a\nb", "a\n", "\na", "a,\n", "\r", "a\r\n", "\x00", "a\x7f", "\x80", "\xff", "\u00e4", "\u00a0", "a\u00a0", "\u212a", "a\v", "\fa",
	} {
		checkNames(t, says(value), nil, false)
		checkNames(t, says(value, "x"), nil, false)
		checkNames(t, says("x", value), nil, false)
		checkNames(t, says("x, y", "z", value, "x"), nil, false)
		checkNames(t, request("A", "1", "VARY", "x", "b", "2", "vary", value), nil, false)
	}
}

// Each value is a list of its own, so that a quote in one does not reach into
// the next.
func TestNamesOfValuesAlone(t *testing.T) {
	checkNames(t, says(`"a`, `b"`), nil, false)
	checkNames(t, says(`"`, `"`), nil, false)
	checkNames(t, says("a", "b"), []string{"a", "b"}, true)
}

// Each byte within a name, and by itself beside others.
func TestNamesOfEachByte(t *testing.T) {
	const marks = "!#$%&'*+-.^_`|~"
	for c, s := range bytes256() {
		if s == "," {
			checkNames(t, says("x,y"), []string{"x", "y"}, true)
			continue
		}
		token := c >= 'a' && c <= 'z' || c >= 'A' && c <= 'Z' || c >= '0' && c <= '9' || strings.Contains(marks, s)
		var want []string
		if token {
			want = []string{"x" + lower(s) + "y"}
		}
		checkNames(t, says("x"+s+"y"), want, token)
		for _, value := range []string{s, s + "x", "x" + s, s + s, s + ",x", "x , " + s, "x " + s, s + " " + s} {
			for _, l := range [][]api.Field{says(value), says("b", value), says(value, "b")} {
				want, ok := toldNames(l)
				checkNames(t, l, want, ok)
			}
		}
	}
}

func TestNamesByTheDocument(t *testing.T) {
	for _, s := range slices.Concat(words("aB,* ", 6), words("a\"\\,*\t", 6), strange(20000, 24, "aAbBcZ_9,,,\t *")) {
		want, ok := toldNames(says(s))
		checkNames(t, says(s), want, ok)
	}
}

func TestNamesOfPairsByTheDocument(t *testing.T) {
	values := append(words("aB,*\" ", 3), "b, Ab", "zz,AB", "x\ty", `"a,b"`, "a,*")
	for _, a := range values {
		for _, b := range values {
			l := request("vary", a, "a", "*", "VARY", b)
			want, ok := toldNames(l)
			checkNames(t, l, want, ok)
		}
	}
}

// The order and the number of values and of elements say nothing.
func TestNamesInAnyOrder(t *testing.T) {
	r := rand.New(rand.NewSource(151))
	elements := []string{"a", "A", "b", "Accept", "accept-encoding", "X_1", "~", "zz", "Z"}
	want := []string{"a", "accept", "accept-encoding", "b", "x_1", "z", "zz", "~"}
	for range 500 {
		all := slices.Concat(elements, elements[:r.Intn(len(elements))])
		r.Shuffle(len(all), func(i, j int) { all[i], all[j] = all[j], all[i] })
		var values []string
		for len(all) > 0 {
			n := 1 + r.Intn(len(all))
			values = append(values, strings.Join(all[:n], " , "))
			all = all[n:]
		}
		checkNames(t, says(values...), want, true)
	}
}

func TestNamesOfManyAndLong(t *testing.T) {
	const many = 50000
	checkNames(t, says(strings.Repeat("b,A , ", many)), []string{"a", "b"}, true)
	checkNames(t, says(strings.Repeat("b,a,", many)+"*"), nil, false)
	checkNames(t, says(strings.Repeat(",", many)), nil, true)
	checkNames(t, says(`"`+strings.Repeat(",", many)), nil, false)
	long := strings.Repeat("aZ", many)
	checkNames(t, says(long, lower(long)), []string{lower(long)}, true)
}

// Names are new with each call.
func TestNamesAreNew(t *testing.T) {
	l := says("b, a")
	names, _ := Names(l)
	names[0], names[1] = "changed", "too"
	checkNames(t, l, []string{"a", "b"}, true)
}

// P15.2: Picks

func TestPicks(t *testing.T) {
	for _, row := range []struct {
		names []string
		l     []api.Field
		want  []api.Pick
	}{
		{[]string{"a", "b"}, request("A", "x   y"), []api.Pick{has("a", "x y"), lacks("b")}},
		{nil, request("a", "1"), nil},
		{[]string{}, nil, nil},
		{[]string{"a"}, nil, []api.Pick{lacks("a")}},
		{[]string{"a"}, request("a", ""), []api.Pick{has("a", "")}},
		{[]string{"a"}, request("a", "1", "A", "2"), []api.Pick{has("a", "1, 2")}},
		{[]string{"a"}, request("A", "2", "b", "3", "a", "1"), []api.Pick{has("a", "2, 1")}},
		{[]string{"a"}, request("a", "", "a", ""), []api.Pick{has("a", ", ")}},
		{[]string{"a"}, request("a", "1,2", "a", "3"), []api.Pick{has("a", "1,2, 3")}},
		{[]string{"a"}, request("a", "*"), []api.Pick{has("a", "*")}},
		{[]string{"a"}, request("aa", "1", "", "2", "b", "3"), []api.Pick{lacks("a")}},
		{[]string{""}, request("", "1", "a", "2"), []api.Pick{has("", "1")}},
		{[]string{"b", "a"}, request("a", "1", "b", "2"), []api.Pick{has("b", "2"), has("a", "1")}},
		{[]string{"a", "a", "b", "a"}, request("a", "1"), []api.Pick{has("a", "1"), has("a", "1"), lacks("b"), has("a", "1")}},
		{[]string{"A", "a"}, request("a", "1"), []api.Pick{has("A", "1"), has("a", "1")}},
		{[]string{"X-Y", " z\x00"}, request("x-y", "V"), []api.Pick{has("X-Y", "V"), lacks(" z\x00")}},
	} {
		checkPicks(t, row.names, row.l, row.want)
	}
}

// A run of blanks is one space, wherever it stands, and each value has runs of
// its own.
func TestPicksOfBlanks(t *testing.T) {
	for _, row := range []struct {
		values []string
		want   string
	}{
		{[]string{" "}, " "},
		{[]string{"\t"}, " "},
		{[]string{"x\ty"}, "x y"},
		{[]string{"x y"}, "x y"},
		{[]string{"x  y"}, "x y"},
		{[]string{"x \t \ty"}, "x y"},
		{[]string{" x"}, " x"},
		{[]string{"\t \tx \t"}, " x "},
		{[]string{" x  y\t\tz\t w "}, " x y z w "},
		{[]string{"x ", " y"}, "x ,  y"},
		{[]string{"x\t\t", "\t y"}, "x ,  y"},
		{[]string{"", "\t", ""}, ",  , "},
		{[]string{"x,  y", "z"}, "x, y, z"},
		{[]string{"x  ,y"}, "x ,y"},
		{[]string{`"x  y"`}, `"x y"`},
		{[]string{`x\  y`}, `x\ y`},
		{[]string{"x\n\ny", "\r\r", "\v\v", "\f\f"}, "x\n\ny, \r\r, \v\v, \f\f"},
		{[]string{"\u00a0\u00a0", "\u2003\u2003", "\x85\x85"}, "\u00a0\u00a0, \u2003\u2003, \x85\x85"},
		{[]string{"\x00\x00  \xff\xff"}, "\x00\x00 \xff\xff"},
	} {
		var l []api.Field
		for _, value := range row.values {
			l = append(l, api.Field{Name: "A", Value: value})
		}
		checkPicks(t, []string{"a"}, l, []api.Pick{has("a", row.want)})
	}
}

func TestPicksOfEachByte(t *testing.T) {
	for c, s := range bytes256() {
		one, two := s, s+s
		if c == 32 || c == 9 {
			one, two = " ", " "
		}
		for _, row := range [][2]string{{s, one}, {s + s, two}, {"x" + s + "y", "x" + one + "y"}, {"x" + s + s + "y" + s, "x" + two + "y" + one}} {
			checkPicks(t, []string{"a"}, request("a", row[0]), []api.Pick{has("a", row[1])})
		}
	}
}

// Names are alike but for the letters A to Z alone.
func TestPicksOfNamesOfEachByte(t *testing.T) {
	for _, s := range bytes256() {
		for _, other := range bytes256() {
			want := lacks("x" + s)
			if lower(s) == lower(other) {
				want = has("x"+s, "1")
			}
			if p := Picks([]string{"x" + s}, request("X"+other, "1")); len(p) != 1 || p[0] != want {
				t.Fatalf("%q of %q is %+v, want %+v", "x"+s, "X"+other, p, want)
			}
		}
	}
}

func TestPicksByTheDocument(t *testing.T) {
	names := []string{"a", "b", "A"}
	for _, s := range slices.Concat(words(" \ta,", 6), strange(10000, 20, "aAbB,\" \t \t")) {
		for _, l := range [][]api.Field{request("A", s), request("b", s, "a", " x", "B", s+s, "c", s)} {
			checkPicks(t, names, l, toldPicks(names, l))
		}
	}
}

func TestPicksOfListsByTheDocument(t *testing.T) {
	one := request("a", "1", "A", "2\t", "b", "1", "B", "", "c", " 1  ")
	for _, names := range [][]string{nil, {"a"}, {"B", "a"}, {"c", "b", "a", "d"}, {"A", "a"}, {"", "b"}} {
		for _, l := range lists(one, 4) {
			checkPicks(t, names, l, toldPicks(names, l))
		}
	}
}

// lists answers all lists of at most most of some elements.
func lists[E any](elements []E, most int) [][]E {
	all := [][]E{nil}
	last := all
	for range most {
		var next [][]E
		for _, l := range last {
			for _, e := range elements {
				next = append(next, append(slices.Clone(l), e))
			}
		}
		all = append(all, next...)
		last = next
	}
	return all
}

func TestPicksOfManyAndLong(t *testing.T) {
	const many = 1 << 20
	l := request("a", strings.Repeat(" \t", many)+"x"+strings.Repeat("\t", many))
	checkPicks(t, []string{"a"}, l, []api.Pick{has("a", " x ")})
	l = request("a", strings.Repeat(" x", many))
	checkPicks(t, []string{"a"}, l, []api.Pick{has("a", l[0].Value)})
	var names []string
	l = nil
	for i := range api.MaxFields {
		name := "n" + strings.Repeat("x", i)
		names = append(names, name)
		l = append(l, api.Field{Name: name, Value: strings.Repeat("v\t ", api.MaxText/4)})
	}
	checkPicks(t, names, l, toldPicks(names, l))
}

// Picks are new with each call, and what is done to them or to the names and
// fields afterwards is not seen in others.
func TestPicksAreNew(t *testing.T) {
	names, l := []string{"a", "b"}, request("a", "1", "b", "2")
	p := Picks(names, l)
	q := Picks(names, l)
	p[0], p[1] = api.Pick{}, lacks("changed")
	names[0], l[1].Value = "x", "3"
	if !slices.Equal(q, []api.Pick{has("a", "1"), has("b", "2")}) {
		t.Errorf("picks have changed: %+v", q)
	}
}

// P15.3: Match

func TestMatch(t *testing.T) {
	p := []api.Pick{has("a", "x y"), lacks("b")}
	for _, row := range []struct {
		p    []api.Pick
		l    []api.Field
		want bool
	}{
		{p, request("A", "x   y"), true},
		{p, request("a", "x\ty"), true},
		{p, request("c", "1", "A", "x y", "d", "2"), true},
		{p, request("a", "x y "), false},
		{p, request("a", " x y"), false},
		{p, request("a", "xy"), false},
		{p, request("a", "X y"), false},
		{p, request("a", "x y", "b", ""), false},
		{p, request("a", "x y", "B", "1"), false},
		{p, request("a", "x y", "a", ""), false},
		{p, request("aa", "x y"), false},
		{p, nil, false},
		{nil, nil, true},
		{nil, request("a", "1"), true},
		{[]api.Pick{}, request("a", "1", "b", "2"), true},
		{[]api.Pick{lacks("a")}, nil, true},
		{[]api.Pick{lacks("a")}, request("b", "1"), true},
		{[]api.Pick{lacks("a")}, request("a", ""), false},
		{[]api.Pick{has("a", "")}, request("a", ""), true},
		{[]api.Pick{has("a", "")}, nil, false},
		{[]api.Pick{has("a", "")}, request("a", " "), false},
		{[]api.Pick{has("a", "1, 2")}, request("a", "1", "A", "2"), true},
		{[]api.Pick{has("a", "1, 2")}, request("a", "1, 2"), true},
		{[]api.Pick{has("a", "1, 2")}, request("a", "1,\t2"), true},
		{[]api.Pick{has("a", "1, 2")}, request("a", "1,2"), false},
		{[]api.Pick{has("a", "1, 2")}, request("a", "2", "a", "1"), false},
		{[]api.Pick{has("a", "1, 2")}, request("a", "1"), false},
		{[]api.Pick{has("A", "1")}, request("a", "1"), true},
		{[]api.Pick{has("a", "1"), has("A", "1")}, request("a", "1"), true},
		{[]api.Pick{has("b", "2"), has("a", "1")}, request("a", "1", "b", "2"), true},
		{[]api.Pick{has("a", "1"), has("a", "2")}, request("a", "1", "a", "2"), false},
	} {
		checkMatch(t, row.p, row.l, row.want)
	}
}

// Picks that no request can have are matched by none.
func TestMatchOfNone(t *testing.T) {
	for _, p := range [][]api.Pick{
		{has("a", "x  y")}, {has("a", "x\ty")}, {has("a", "\t")}, {{Name: "a", Value: "1"}}, {has("a", "1"), lacks("a")}, {has("a", "1"), has("a", "2")},
	} {
		for _, l := range [][]api.Field{nil, request("a", "1"), request("a", "x  y"), request("a", "x\ty"), request("a", "\t"), request("a", "1", "a", "2"), request("a", "x y"), request("a", " ")} {
			checkMatch(t, p, l, false)
		}
	}
}

func TestMatchByTheDocument(t *testing.T) {
	picks := []api.Pick{has("a", "1"), has("A", "1"), lacks("a"), has("a", ""), has("b", "1, 2 "), lacks("b"), {Name: "b", Value: "1"}, has("a", " ")}
	requests := lists(request("a", "1", "A", "", "b", "1", "B", "2\t ", "a", "\t\t"), 3)
	for _, p := range lists(picks, 3) {
		for _, l := range requests {
			checkMatch(t, p, l, toldMatch(p, l))
		}
	}
}

// P15.3: Same

func TestSame(t *testing.T) {
	a, b := has("a", "1"), has("b", "2")
	for _, row := range []struct {
		a, b []api.Pick
		want bool
	}{
		{nil, nil, true},
		{nil, []api.Pick{}, true},
		{[]api.Pick{}, nil, true},
		{[]api.Pick{a}, []api.Pick{a}, true},
		{[]api.Pick{a, b}, []api.Pick{a, b}, true},
		{[]api.Pick{a, b}, []api.Pick{b, a}, false},
		{[]api.Pick{a, b}, []api.Pick{a}, false},
		{[]api.Pick{a}, []api.Pick{a, b}, false},
		{[]api.Pick{a}, []api.Pick{a, a}, false},
		{[]api.Pick{b}, []api.Pick{a, b}, false},
		{[]api.Pick{a}, nil, false},
		{nil, []api.Pick{{}}, false},
		{[]api.Pick{a}, []api.Pick{has("A", "1")}, false},
		{[]api.Pick{a}, []api.Pick{has("b", "1")}, false},
		{[]api.Pick{a}, []api.Pick{has("a", "2")}, false},
		{[]api.Pick{a}, []api.Pick{has("a", "1 ")}, false},
		{[]api.Pick{a}, []api.Pick{lacks("a")}, false},
		{[]api.Pick{a}, []api.Pick{{Name: "a", Value: "1"}}, false},
		{[]api.Pick{lacks("a")}, []api.Pick{has("a", "")}, false},
		{[]api.Pick{lacks("a")}, []api.Pick{{Name: "a", Value: "1"}}, false},
		{[]api.Pick{has("a", "x")}, []api.Pick{has("a", "X")}, false},
		{[]api.Pick{has("a", "x y")}, []api.Pick{has("a", "x  y")}, false},
		{[]api.Pick{has("a", "\xff")}, []api.Pick{has("a", "\xfe")}, false},
	} {
		if got := Same(row.a, row.b); got != row.want {
			t.Errorf("Same(%+v, %+v) is %v", row.a, row.b, got)
		}
	}
}

func TestSameByTheDocument(t *testing.T) {
	picks := []api.Pick{{}, has("", ""), has("a", "1"), has("a", "2"), has("A", "1"), lacks("a"), {Name: "a", Value: "1"}, lacks("b")}
	all := lists(picks, 3)
	for _, a := range all {
		for _, b := range all {
			if got := Same(a, b); got != toldSame(a, b) {
				t.Fatalf("Same(%+v, %+v) is %v", a, b, got)
			}
		}
	}
}

// The whole of long lists is held against each other.
func TestSameOfLongLists(t *testing.T) {
	a := make([]api.Pick, 1000)
	b := make([]api.Pick, 1000)
	if !Same(a, b) || Same(a, b[:999]) || Same(a[:999], b) {
		t.Error("lists of nothing")
	}
	for i := range b {
		b[i].Value = "x"
		if Same(a, b) || Same(b, a) {
			t.Fatalf("they differ at %d", i)
		}
		b[i].Value = ""
	}
}

// P15.4: a request matches its own picks

// mixedCase answers a text with each letter great or small by chance.
func mixedCase(r *rand.Rand, s string) string {
	b := []byte(lower(s))
	for i, c := range b {
		if c >= 97 && c <= 122 && r.Intn(2) > 0 {
			b[i] = c - 32
		}
	}
	return string(b)
}

// reordered answers fields in another order, with names in another case. Fields
// that have one name stay in their order.
func reordered(r *rand.Rand, l []api.Field) []api.Field {
	values := map[string][]string{}
	for _, f := range l {
		values[lower(f.Name)] = append(values[lower(f.Name)], f.Value)
	}
	var other []api.Field
	for _, i := range r.Perm(len(l)) {
		name := lower(l[i].Name)
		other = append(other, api.Field{Name: mixedCase(r, name), Value: values[name][0]})
		values[name] = values[name][1:]
	}
	return other
}

func TestRequestsMatchTheirPicks(t *testing.T) {
	r := rand.New(rand.NewSource(154))
	names := []string{"a", "A", "b", "Accept", "x-y", "~", "", "c d"}
	values := append(words(" \tx,", 3), "\"a", "\x00\xff")
	for range 20000 {
		l := make([]api.Field, r.Intn(7))
		for i := range l {
			l[i] = api.Field{Name: names[r.Intn(len(names))], Value: values[r.Intn(len(values))]}
		}
		of := make([]string, r.Intn(5))
		for i := range of {
			of[i] = names[r.Intn(len(names))]
		}
		p := Picks(of, l)
		checkMatch(t, p, l, true)
		checkMatch(t, p, reordered(r, l), true)
		checkMatch(t, nil, l, true)
		checkMatch(t, []api.Pick{}, l, true)
	}
}

// Picks of names by which a reply varies are matched also where the reply's
// field names them otherwise.
func TestRequestsMatchByTheNamesOfVary(t *testing.T) {
	q := request("Accept", "x,  y", "Cookie", "", "ACCEPT", "z")
	for _, reply := range [][]api.Field{says("Accept, Cookie, Host"), says("host", "COOKIE,accept"), says("cookie", "", "Host, Accept,host")} {
		names, ok := Names(reply)
		if !ok {
			t.Fatalf("no names of %q", reply)
		}
		p := Picks(names, q)
		if want := []api.Pick{has("accept", "x, y, z"), has("cookie", ""), lacks("host")}; !Same(p, want) {
			t.Errorf("picks of %q are %+v", reply, p)
		}
		checkMatch(t, p, q, true)
		checkMatch(t, p, request("cookie", "", "accept", "x, y", "accept", "z"), true)
		checkMatch(t, p, request("cookie", "", "accept", "x, y"), false)
		checkMatch(t, p, append(q, api.Field{Name: "host", Value: ""}), false)
	}
}
