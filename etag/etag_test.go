package etag

import (
	"math/rand"
	"regexp"
	"slices"
	"strings"
	"testing"

	"depot/api"
)

// The number that the document gives to a text that is not well-formed, written
// out, so that a test does not lean on what the package uses.
const docErrForm = 5

// What a tag, an element and a list are, by the words of the document alone. A
// byte beyond 127 that is no part of a rune counts as one of its own there, so
// that what is not named is told by what it is not.
const (
	tagForm  = `(W/)?"([^\x00-\x20"\x7f]*)"`
	elemForm = `(?:[^",]|"[^"]*")+`
	listForm = `^(?:[^"]|"[^"]*")*$`
)

var (
	isTag     = regexp.MustCompile(`^` + tagForm + `$`)
	elementOf = regexp.MustCompile(elemForm)
	isList    = regexp.MustCompile(listForm)
)

// toldParse answers a text's tag by those words.
func toldParse(s string) (api.Tag, bool) {
	m := isTag.FindStringSubmatch(s)
	if m == nil {
		return api.Tag{}, false
	}
	return api.Tag{Weak: m[1] != "", Text: m[2]}, true
}

// toldList answers a list's tags by those words, or that it is any.
func toldList(s string) ([]api.Tag, bool, api.Errno) {
	if strings.Trim(s, " \t") == "*" {
		return nil, true, 0
	}
	if !isList.MatchString(s) {
		return nil, false, docErrForm
	}
	var l []api.Tag
	for _, e := range elementOf.FindAllString(s, -1) {
		if e = strings.Trim(e, " \t"); e == "" {
			continue
		}
		tag, ok := toldParse(e)
		if !ok {
			return nil, false, docErrForm
		}
		l = append(l, tag)
	}
	if len(l) == 0 {
		return nil, false, docErrForm
	}
	return l, false, 0
}

// toldMatch tells by those words whether a list has a tag.
func toldMatch(s string, t api.Tag) bool {
	l, every, _ := toldList(s)
	for _, has := range l {
		every = every || has.Text == t.Text
	}
	return every
}

// bytes256 answers each byte once, in order.
func bytes256() []byte {
	l := make([]byte, 256)
	for i := range l {
		l[i] = byte(i)
	}
	return l
}

// words answers all texts of at most most bytes of an alphabet.
func words(alphabet string, most int) []string {
	all := []string{""}
	last := all
	for range most {
		var next []string
		for _, w := range last {
			for i := range len(alphabet) {
				next = append(next, w+alphabet[i:i+1])
			}
		}
		all = append(all, next...)
		last = next
	}
	return all
}

// strange answers texts of any bytes, with many marks of tags and lists among
// them.
func strange(count, most int) []string {
	r := rand.New(rand.NewSource(14))
	const marks = "\"\"\",,W/*\\a \t"
	all := make([]string, count)
	for i := range all {
		b := make([]byte, r.Intn(most+1))
		for j := range b {
			if b[j] = byte(r.Intn(256)); r.Intn(4) > 0 {
				b[j] = marks[r.Intn(len(marks))]
			}
		}
		all[i] = string(b)
	}
	return all
}

// tagBytes answers all bytes that may stand in a tag.
func tagBytes() string {
	b := []byte{33}
	for c := 35; c <= 255; c++ {
		if c != 127 {
			b = append(b, byte(c))
		}
	}
	return string(b)
}

// tags answers tags of all kinds, both weak ones and others.
func tags() []api.Tag {
	texts := append(words("a,W/\\*", 2), tagBytes(), "W/a", "a,b,", "\xc3\xa4", "\xff", strings.Repeat("a,", 5000))
	var all []api.Tag
	for _, text := range texts {
		all = append(all, api.Tag{Text: text}, api.Tag{Weak: true, Text: text})
	}
	return all
}

// checkParse holds Parse against what it is to answer.
func checkParse(t *testing.T, s string, want api.Tag, is bool) {
	t.Helper()
	if tag, ok := Parse(s); tag != want || ok != is {
		t.Fatalf("Parse(%q) is %+v, %v, want %+v, %v", s, tag, ok, want, is)
	}
}

// checkList holds List against what it is to answer.
func checkList(t *testing.T, s string, want []api.Tag, any bool, code api.Errno) {
	t.Helper()
	if l, all, e := List(s); !slices.Equal(l, want) || all != any || e != code {
		t.Fatalf("List(%q) is %+v, %v, %d, want %+v, %v, %d", s, l, all, e, want, any, code)
	}
}

// P14.1: Parse

func TestParse(t *testing.T) {
	for _, row := range []struct {
		s    string
		want api.Tag
	}{
		{`"a"`, api.Tag{Text: "a"}},
		{`W/"a"`, api.Tag{Weak: true, Text: "a"}},
		{`""`, api.Tag{}},
		{`W/""`, api.Tag{Weak: true}},
		{`"W/"`, api.Tag{Text: "W/"}},
		{`W/"W/"`, api.Tag{Weak: true, Text: "W/"}},
		{`"a,b"`, api.Tag{Text: "a,b"}},
		{`","`, api.Tag{Text: ","}},
		{`"*"`, api.Tag{Text: "*"}},
		{`"\"`, api.Tag{Text: `\`}},
		{`"\\"`, api.Tag{Text: `\\`}},
		{`"a\b"`, api.Tag{Text: `a\b`}},
		{`"!#~"`, api.Tag{Text: "!#~"}},
		{"\"\x80\xff\"", api.Tag{Text: "\x80\xff"}},
		{"W/\"\xc3\xa4\"", api.Tag{Weak: true, Text: "\xc3\xa4"}},
		{`"` + tagBytes() + `"`, api.Tag{Text: tagBytes()}},
	} {
		checkParse(t, row.s, row.want, true)
	}
}

func TestParseOfOthers(t *testing.T) {
	for _, s := range []string{
		``, `"`, `a`, `*`, `W`, `W/`, `W/"`, `"a`, `a"`, `W/a`, `W/"a`, `W/a"`, `w/"a"`, `W"a"`, `/"a"`, `W /"a"`, `W/ "a"`, `W\"a"`,
		`WW/"a"`, `W/W/"a"`, ` "a"`, `"a" `, "\t\"a\"", "\"a\"\t", ` W/"a"`, `W/"a" `, `"a b"`, `" a"`, `"a "`, "\"a\tb\"", `"a"b"`, `"""`, `""""`,
		`"a""b"`, `"a","b"`, `"a", "b"`, `"\""`, `"a"W/`, `'a'`, "\"a\x7f\"", "\"\x00\"", "\"\n\"", "\"a\"\n", "\n\"a\"", `"a"W/"b"`, `""a`, `a""`,
	} {
		checkParse(t, s, api.Tag{}, false)
	}
}

// Each byte between the quotes, beside others, and outside of them.
func TestParseOfEachByte(t *testing.T) {
	for _, c := range bytes256() {
		s := string([]byte{c})
		is := c == 33 || c >= 35 && c <= 126 || c >= 128
		for _, text := range []string{s, s + "a", "a" + s, "a" + s + "b", s + s} {
			tag := api.Tag{Text: text}
			weak := api.Tag{Weak: true, Text: text}
			if !is {
				tag, weak = api.Tag{}, api.Tag{}
			}
			checkParse(t, `"`+text+`"`, tag, is)
			checkParse(t, `W/"`+text+`"`, weak, is)
		}
		for _, s := range []string{s, s + `"a"`, `"a"` + s, `W` + s + `"a"`, s + `/"a"`, `W/` + s + `"a"`, s + `a"`, `"a` + s} {
			tag, ok := toldParse(s)
			checkParse(t, s, tag, ok)
		}
	}
}

func TestParseByTheDocument(t *testing.T) {
	for _, s := range slices.Concat(words("W/\"a ", 7), words("\"\\,*\t", 6), strange(20000, 8)) {
		for _, s := range []string{s, `"` + s + `"`, `W/"` + s + `"`} {
			want, is := toldParse(s)
			checkParse(t, s, want, is)
		}
	}
}

// P14.1: Text

func TestText(t *testing.T) {
	for _, row := range []struct {
		tag  api.Tag
		want string
	}{
		{api.Tag{}, `""`},
		{api.Tag{Weak: true}, `W/""`},
		{api.Tag{Text: "a"}, `"a"`},
		{api.Tag{Weak: true, Text: "a"}, `W/"a"`},
		{api.Tag{Text: "W/"}, `"W/"`},
		{api.Tag{Text: `W/"a"`}, `"W/"a""`},
		{api.Tag{Weak: true, Text: "a, b"}, `W/"a, b"`},
	} {
		if s := Text(row.tag); s != row.want {
			t.Errorf("Text(%+v) is %q, want %q", row.tag, s, row.want)
		}
	}
}

// Text tells whatever a tag contains, also what none may that is parsed.
func TestTextOfWhatever(t *testing.T) {
	for _, text := range slices.Concat(words("\"\\ W/", 4), strange(5000, 20), []string{string(bytes256())}) {
		if s := Text(api.Tag{Text: text}); s != "\""+text+"\"" {
			t.Fatalf("Text of %q is %q", text, s)
		}
		if s := Text(api.Tag{Weak: true, Text: text}); s != "W/\""+text+"\"" {
			t.Fatalf("Text of %q, weak, is %q", text, s)
		}
	}
}

// P14.2: Strong, Weak

func TestAlike(t *testing.T) {
	for _, row := range []struct {
		a, b         api.Tag
		strong, weak bool
	}{
		{api.Tag{}, api.Tag{}, true, true},
		{api.Tag{Text: "1"}, api.Tag{Text: "1"}, true, true},
		{api.Tag{Weak: true, Text: "1"}, api.Tag{Text: "1"}, false, true},
		{api.Tag{Text: "1"}, api.Tag{Weak: true, Text: "1"}, false, true},
		{api.Tag{Weak: true, Text: "1"}, api.Tag{Weak: true, Text: "1"}, false, true},
		{api.Tag{Weak: true}, api.Tag{Weak: true}, false, true},
		{api.Tag{Text: "1"}, api.Tag{Text: "2"}, false, false},
		{api.Tag{Weak: true, Text: "1"}, api.Tag{Weak: true, Text: "2"}, false, false},
		{api.Tag{Text: "1"}, api.Tag{}, false, false},
		{api.Tag{Text: "a"}, api.Tag{Text: "A"}, false, false},
		{api.Tag{Text: "a"}, api.Tag{Text: "a "}, false, false},
		{api.Tag{Text: "a"}, api.Tag{Text: "aa"}, false, false},
		{api.Tag{Text: "a"}, api.Tag{Text: `"a"`}, false, false},
		{api.Tag{Text: "*"}, api.Tag{Text: "a"}, false, false},
		{api.Tag{Text: "W/"}, api.Tag{Weak: true}, false, false},
		{api.Tag{Text: "\x80"}, api.Tag{Text: "\x81"}, false, false},
	} {
		if strong, weak := Strong(row.a, row.b), Weak(row.a, row.b); strong != row.strong || weak != row.weak {
			t.Errorf("%+v and %+v: strong %v, weak %v", row.a, row.b, strong, weak)
		}
	}
}

func TestAlikeByTheDocument(t *testing.T) {
	all := append(tags(), api.Tag{Text: `"`}, api.Tag{Weak: true, Text: " \x00"})
	for _, a := range all {
		for _, b := range all {
			weak := a.Text == b.Text
			strong := weak && !a.Weak && !b.Weak
			if Strong(a, b) != strong || Weak(a, b) != weak {
				t.Fatalf("%+v and %+v: strong %v, weak %v", a, b, Strong(a, b), Weak(a, b))
			}
		}
	}
}

// P14.3: List

func TestList(t *testing.T) {
	a, b, ab := api.Tag{Text: "a"}, api.Tag{Weak: true, Text: "b"}, api.Tag{Text: "a,b"}
	for _, row := range []struct {
		s    string
		want []api.Tag
	}{
		{`"a"`, []api.Tag{a}},
		{`W/"b"`, []api.Tag{b}},
		{`""`, []api.Tag{{}}},
		{`"*"`, []api.Tag{{Text: "*"}}},
		{`"a",W/"b"`, []api.Tag{a, b}},
		{`W/"b","a"`, []api.Tag{b, a}},
		{`"a","a",W/"b"`, []api.Tag{a, a, b}},
		{`"a,b"`, []api.Tag{ab}},
		{`"a,b","a"`, []api.Tag{ab, a}},
		{`"a", "a,b",W/"b"`, []api.Tag{a, ab, b}},
		{`",",",",""`, []api.Tag{{Text: ","}, {Text: ","}, {}}},
		{`W/"x" , "a,b", "y"`, []api.Tag{{Weak: true, Text: "x"}, ab, {Text: "y"}}},
		{`"\","a"`, []api.Tag{{Text: `\`}, a}},
		{`"\\",W/"b"`, []api.Tag{{Text: `\\`}, b}},
	} {
		checkList(t, row.s, row.want, false, 0)
	}
}

func TestListTrimsAndIgnores(t *testing.T) {
	want := []api.Tag{{Text: "a"}, {Weak: true, Text: "b,c"}}
	for _, gap := range words(" \t,", 4) {
		for _, s := range []string{gap + `"a",W/"b,c"`, `"a",W/"b,c"` + gap, `"a"` + gap + `,W/"b,c"`, `"a",` + gap + `W/"b,c"`, gap + `"a"` + gap + `,` + gap + `W/"b,c"` + gap} {
			checkList(t, s, want, false, 0)
		}
	}
}

func TestListOfAny(t *testing.T) {
	for _, a := range words(" \t", 3) {
		for _, b := range words(" \t", 3) {
			checkList(t, a+"*"+b, nil, true, 0)
		}
	}
}

// What has no elements is no list, nor is a * beside commas.
func TestListOfNothing(t *testing.T) {
	for _, s := range words(" \t,*", 6) {
		if strings.Trim(s, " \t") != "*" {
			checkList(t, s, nil, false, docErrForm)
		}
	}
}

func TestListOfNoTags(t *testing.T) {
	for _, s := range []string{
		`a`, `"`, `"a`, `a"`, `**`, `*,"a"`, `"a",*`, `"a", *`, `* "a"`, `"a" *`, `*,`, `,*`, `*,*`, `W/`, `W/*`, `W/,"a"`, `W/ "a"`, `w/"a"`,
		`"a" "b"`, `"a""b"`, `"a"b`, `"a";"b"`, `"a",b`, `b,"a"`, `"a",b,"c"`, `"a","b`, `"a,`, `"a","`, `"a",",`, `"a,"b"`, `"a"b"`, `"a","b"c"`,
		`"a b"`, `"a","b c"`, `" a"`, `"a\"b"`, `"a\",b"`, "\"a\x7f\"", "\"a\",\"\x00\"", "\"a\"\n", "\n,\"a\"", "\"a\",\v", "\"a\",\r\"b\"", "\u00a0\"a\"", "\v*",
	} {
		checkList(t, s, nil, false, docErrForm)
	}
}

// Each byte as an element, beside a tag, and within one.
func TestListOfEachByte(t *testing.T) {
	for _, c := range bytes256() {
		s := string([]byte{c})
		for _, s := range []string{s, s + `"a"`, `"a"` + s, `"a",` + s, s + `,"a"`, `"a"` + s + `"b"`, `"a",` + s + `,"b"`, `"` + s + `"`, `"a","` + s + `"`} {
			want, any, code := toldList(s)
			checkList(t, s, want, any, code)
		}
	}
}

func TestListByTheDocument(t *testing.T) {
	for _, s := range slices.Concat(words("\",a W/", 7), words("\",*\t\\", 7), strange(20000, 24)) {
		want, any, code := toldList(s)
		checkList(t, s, want, any, code)
	}
}

// pieces answers what lists are made of, so that many of them are lists.
func pieces() []string {
	return []string{`"a"`, `W/"a"`, `"b,"`, `""`, `"\"`, `*`, `x`, `"`, `,`, ` `, "\t"}
}

func TestListOfPieces(t *testing.T) {
	all := []string{""}
	last := all
	for range 5 {
		var next []string
		for _, s := range last {
			for _, piece := range pieces() {
				next = append(next, s+piece)
			}
		}
		all = append(all, next...)
		last = next
	}
	for _, s := range all {
		want, any, code := toldList(s)
		checkList(t, s, want, any, code)
	}
}

func TestListOfLongLists(t *testing.T) {
	const many = 100000
	l, any, e := List(strings.Repeat("W/\"a,\"\t,,", many))
	if e != 0 || any || len(l) != many || l[many-1] != (api.Tag{Weak: true, Text: "a,"}) {
		t.Errorf("%d tags, %v, %d", len(l), any, e)
	}
	checkList(t, strings.Repeat(`"a",`, many)+"b", nil, false, docErrForm)
	checkList(t, strings.Repeat(`,`, many), nil, false, docErrForm)
	text := strings.Repeat(`,`, many)
	checkList(t, `"`+text+`"`, []api.Tag{{Text: text}}, false, 0)
	checkList(t, `"`+text, nil, false, docErrForm)
}

// Lists are new with each call.
func TestListIsNew(t *testing.T) {
	const s = `"a", "b"`
	l, _, _ := List(s)
	l[0] = api.Tag{Text: "changed"}
	checkList(t, s, []api.Tag{{Text: "a"}, {Text: "b"}}, false, 0)
}

// P14.3: Match

func TestMatch(t *testing.T) {
	a, weak := api.Tag{Text: "a"}, api.Tag{Weak: true, Text: "a"}
	for _, row := range []struct {
		s    string
		t    api.Tag
		want bool
	}{
		{`W/"x" , "a,b", "y"`, api.Tag{Text: "a,b"}, true},
		{`*`, a, true},
		{" *\t", api.Tag{}, true},
		{`*`, api.Tag{Text: "\"\x00"}, true},
		{`"a"`, a, true},
		{`"a"`, weak, true},
		{`W/"a"`, a, true},
		{`W/"a"`, weak, true},
		{`"x", "y", "a"`, a, true},
		{`"a", "x", "y"`, a, true},
		{`"x", W/"a", "y"`, a, true},
		{`"x", "y"`, a, false},
		{`"A"`, a, false},
		{`"a,b"`, a, false},
		{`"b,a"`, a, false},
		{`"*"`, a, false},
		{`""`, a, false},
		{`""`, api.Tag{Weak: true}, true},
		{`"a"`, api.Tag{}, false},
		{`"*"`, api.Tag{Text: "*"}, true},
		{`"W/"`, api.Tag{Weak: true}, false},
		{`W/"a"`, api.Tag{Text: `W/"a"`}, false},
	} {
		if got := Match(row.s, row.t); got != row.want {
			t.Errorf("Match(%q, %+v) is %v", row.s, row.t, got)
		}
	}
}

// What is not a list matches nothing, not even by the tags ahead of the fault
// or behind it.
func TestMatchOfNoList(t *testing.T) {
	for _, s := range []string{``, ` `, `,`, `a`, `"a`, `"a" x`, `"a",x`, `x,"a"`, `"a",*`, `*,"a"`, `*,`, `"a","`, `"a" "a"`, `"a","b c"`, `w/"a"`, `""a`} {
		for _, text := range []string{"a", "", "x", "*", s} {
			if Match(s, api.Tag{Text: text}) || Match(s, api.Tag{Weak: true, Text: text}) {
				t.Errorf("Match(%q, %q) is true", s, text)
			}
		}
	}
}

func TestMatchByTheDocument(t *testing.T) {
	asked := []api.Tag{{}, {Text: "a"}, {Weak: true, Text: "a"}, {Text: ","}, {Weak: true, Text: "\\"}, {Text: "*"}, {Text: `"`}}
	for _, s := range slices.Concat(words("\",aW/ ", 6), words("\",*\\\t", 6), strange(10000, 16)) {
		for _, tag := range asked {
			if got := Match(s, tag); got != toldMatch(s, tag) {
				t.Fatalf("Match(%q, %+v) is %v", s, tag, got)
			}
		}
	}
}

// P14.4: tags are read back, alone and in lists

func TestTextIsParsed(t *testing.T) {
	for _, tag := range tags() {
		checkParse(t, Text(tag), tag, true)
		checkList(t, Text(tag), []api.Tag{tag}, false, 0)
		if !Match(Text(tag), tag) {
			t.Fatalf("Match(%q) with itself is false", Text(tag))
		}
	}
}

// And what was parsed is told as it stood.
func TestParsedIsTold(t *testing.T) {
	for _, s := range slices.Concat(words("W/\"a,", 7), strange(20000, 6)) {
		for _, s := range []string{s, `"` + s + `"`, `W/"` + s + `"`} {
			if tag, ok := Parse(s); ok && Text(tag) != s {
				t.Fatalf("Text(%+v) is %q, want %q", tag, Text(tag), s)
			}
		}
	}
}

// joined answers a list of tags, with any gaps between them.
func joined(r *rand.Rand, l []api.Tag) string {
	gaps := []string{",", ", ", " ,\t", ",,", ", ,"}
	s := ""
	for i, tag := range l {
		if i > 0 {
			s += gaps[r.Intn(len(gaps))]
		}
		s += Text(tag)
	}
	return s
}

func TestListsAreReadBack(t *testing.T) {
	r := rand.New(rand.NewSource(144))
	all := slices.DeleteFunc(tags(), func(tag api.Tag) bool { return len(tag.Text) > 300 })
	for _, a := range all {
		for _, b := range all {
			checkList(t, Text(a)+", "+Text(b), []api.Tag{a, b}, false, 0)
		}
	}
	for range 3000 {
		want := make([]api.Tag, 1+r.Intn(12))
		for i := range want {
			want[i] = all[r.Intn(len(all))]
		}
		s := joined(r, want)
		checkList(t, s, want, false, 0)
		for _, tag := range want {
			if !Match(s, tag) {
				t.Fatalf("Match(%q, %+v) is false", s, tag)
			}
		}
	}
}

// P14.4: what is alike

func TestStrongIsWeak(t *testing.T) {
	all := append(tags(), api.Tag{Text: `"`}, api.Tag{Weak: true, Text: "\x00 \x7f"})
	for _, a := range all {
		if !Weak(a, a) {
			t.Errorf("%+v is not weakly like itself", a)
		}
		for _, b := range all {
			if Strong(a, b) && !Weak(a, b) {
				t.Errorf("%+v and %+v are strongly alike only", a, b)
			}
			if Strong(a, b) != Strong(b, a) || Weak(a, b) != Weak(b, a) {
				t.Errorf("%+v and %+v are alike in one order only", a, b)
			}
		}
	}
}
