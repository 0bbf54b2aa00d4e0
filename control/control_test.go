package control

import (
	"math"
	"math/rand"
	"regexp"
	"slices"
	"strconv"
	"strings"
	"testing"

	"depot/api"
)

// most is the greatest number of seconds that the document names, written out,
// so that a test does not lean on what the package uses.
const most = 2147483648

// What a list, its elements and a directive are, by the words of the document
// alone.
const (
	tokenForm = "[0-9A-Za-z!#$%&'*+.^_`|~-]+"
	partForm  = `"(?:[^"\\]|\\.)*"`
)

var (
	isList    = regexp.MustCompile(`(?s)^(?:[^"]|` + partForm + `)*$`)
	elementOf = regexp.MustCompile(`(?s)(?:[^",]|` + partForm + `)+`)
	formOf    = regexp.MustCompile(`(?s)^(` + tokenForm + `)(?:=(?:(` + tokenForm + `)|(` + partForm + `)))?$`)
	pairOf    = regexp.MustCompile(`(?s)\\(.)`)
	isDigits  = regexp.MustCompile(`^[0-9]+$`)
)

// low makes the letters A to Z small, and no other ones.
func low(s string) string {
	b := []byte(s)
	for i, c := range b {
		if c >= 'A' && c <= 'Z' {
			b[i] = c + 32
		}
	}
	return string(b)
}

// values answers the values of all fields of a name, which is given small.
func values(l []api.Field, name string) []string {
	var all []string
	for _, f := range l {
		if low(f.Name) == name {
			all = append(all, f.Value)
		}
	}
	return all
}

// toldSeconds answers the number of digits, cut, or another one if there are
// none.
func toldSeconds(s string, other int) int {
	if !isDigits.MatchString(s) {
		return other
	}
	s = strings.TrimLeft(s, "0")
	if len(s) > 10 {
		return most
	}
	n, _ := strconv.Atoi("0" + s)
	return min(n, most)
}

// toldNumbers answers what all directives of a name with a number say.
func toldNumbers(given []string, other int, choose func([]int) int) int {
	if len(given) == 0 {
		return -1
	}
	var l []int
	for _, s := range given {
		l = append(l, toldSeconds(s, other))
	}
	return choose(l)
}

// toldDirectives answers all values of each directive, by its name, and whether
// all fields are lists.
func toldDirectives(l []api.Field) (map[string][]string, bool) {
	all, sound := map[string][]string{}, true
	for _, value := range values(l, "cache-control") {
		if !isList.MatchString(value) {
			sound = false
			continue
		}
		for _, element := range elementOf.FindAllString(value, -1) {
			m := formOf.FindStringSubmatch(strings.Trim(element, " \t"))
			if m == nil {
				continue
			}
			text := m[2]
			if m[3] != "" {
				text = pairOf.ReplaceAllString(m[3][1:len(m[3])-1], "$1")
			}
			all[low(m[1])] = append(all[low(m[1])], text)
		}
	}
	return all, sound
}

// told answers what Parse is to answer, by the words of the document.
func told(l []api.Field) api.Control {
	all, sound := toldDirectives(l)
	has := func(name string) bool { return len(all[name]) > 0 }
	return api.Control{
		NoStore:   !sound || has("no-store"),
		NoCache:   !sound || has("no-cache"),
		Private:   has("private"),
		Public:    has("public"),
		MustCheck: has("must-revalidate") || has("proxy-revalidate"),
		OnlyIf:    has("only-if-cached"),
		MaxAge:    toldNumbers(all["max-age"], 0, slices.Min[[]int]),
		Shared:    toldNumbers(all["s-maxage"], 0, slices.Min[[]int]),
		MinFresh:  toldNumbers(all["min-fresh"], most, slices.Max[[]int]),
	}
}

// toldAsked answers what Asked is to answer, by those words.
func toldAsked(l []api.Field) api.Control {
	c := told(l)
	if len(values(l, "cache-control")) > 0 {
		return c
	}
	for _, value := range values(l, "pragma") {
		if !isList.MatchString(value) {
			continue
		}
		for _, element := range elementOf.FindAllString(value, -1) {
			c.NoCache = c.NoCache || low(strings.Trim(element, " \t")) == "no-cache"
		}
	}
	return c
}

// toldPrint answers what Print is to answer, by those words.
func toldPrint(c api.Control) string {
	s := ""
	add := func(word string, is bool) {
		if is && s != "" {
			s += ", "
		}
		if is {
			s += word
		}
	}
	add("no-store", c.NoStore)
	add("no-cache", c.NoCache)
	add("private", c.Private)
	add("public", c.Public)
	add("must-revalidate", c.MustCheck)
	add("only-if-cached", c.OnlyIf)
	add("max-age="+strconv.Itoa(c.MaxAge), c.MaxAge >= 0)
	add("s-maxage="+strconv.Itoa(c.Shared), c.Shared >= 0)
	add("min-fresh="+strconv.Itoa(c.MinFresh), c.MinFresh >= 0)
	return s
}

// of answers fields Cache-Control with the values.
func of(values ...string) []api.Field {
	var l []api.Field
	for _, value := range values {
		l = append(l, api.Field{Name: "Cache-Control", Value: value})
	}
	return l
}

// but answers a control of which nothing is said, but for what is done to it.
func but(do func(c *api.Control)) api.Control {
	c := api.Control{MaxAge: -1, Shared: -1, MinFresh: -1}
	if do != nil {
		do(&c)
	}
	return c
}

// sets are the directives that need no value, and what each of them sets.
func sets() map[string]func(c *api.Control) {
	return map[string]func(c *api.Control){
		"no-store":         func(c *api.Control) { c.NoStore = true },
		"no-cache":         func(c *api.Control) { c.NoCache = true },
		"private":          func(c *api.Control) { c.Private = true },
		"public":           func(c *api.Control) { c.Public = true },
		"must-revalidate":  func(c *api.Control) { c.MustCheck = true },
		"proxy-revalidate": func(c *api.Control) { c.MustCheck = true },
		"only-if-cached":   func(c *api.Control) { c.OnlyIf = true },
	}
}

// gives are the directives that give a number.
func gives() map[string]func(c *api.Control, n int) {
	return map[string]func(c *api.Control, n int){
		"max-age":   func(c *api.Control, n int) { c.MaxAge = n },
		"s-maxage":  func(c *api.Control, n int) { c.Shared = n },
		"min-fresh": func(c *api.Control, n int) { c.MinFresh = n },
	}
}

// names answers the names of all directives that count.
func names() []string {
	var l []string
	for name := range sets() {
		l = append(l, name)
	}
	for name := range gives() {
		l = append(l, name)
	}
	slices.Sort(l)
	return l
}

// spellings answers a name with its letters great or small.
func spellings(name string) []string {
	mixed := []byte(name)
	for i := 0; i < len(mixed); i += 2 {
		mixed[i] = strings.ToUpper(name)[i]
	}
	return []string{name, strings.ToUpper(name), string(mixed)}
}

// controls answers all that can be set, with each combination of some numbers.
func controls(numbers ...int) []api.Control {
	var all []api.Control
	for bits := range 64 {
		on := func(bit int) bool { return bits>>bit&1 == 1 }
		for _, a := range numbers {
			for _, s := range numbers {
				for _, f := range numbers {
					all = append(all, api.Control{NoStore: on(0), NoCache: on(1), Private: on(2), Public: on(3), MustCheck: on(4), OnlyIf: on(5), MaxAge: a, Shared: s, MinFresh: f})
				}
			}
		}
	}
	return all
}

// check holds what Parse answers against what it is to answer.
func check(t *testing.T, l []api.Field, want api.Control) {
	t.Helper()
	if c := Parse(l); c != want {
		t.Fatalf("Parse(%q) is %+v, want %+v", l, c, want)
	}
}

// P13.1: Parse

func TestParseOfTheExample(t *testing.T) {
	check(t, of(`max-age=60, Private="x", max-age=5`), but(func(c *api.Control) { c.Private, c.MaxAge = true, 5 }))
	check(t, of("max-age=a"), but(func(c *api.Control) { c.MaxAge = 0 }))
	check(t, of(`"`), but(func(c *api.Control) { c.NoStore, c.NoCache = true, true }))
}

func TestParseOfNothing(t *testing.T) {
	for _, l := range [][]api.Field{
		nil, {}, of(""), of(" "), of(",, ,"), of("", "\t"), {{Name: "A", Value: "no-store"}}, {{}},
	} {
		check(t, l, but(nil))
	}
}

func TestParseOfWhatIsSet(t *testing.T) {
	for name, set := range sets() {
		for _, spelling := range spellings(name) {
			for _, value := range []string{"", "=x", "=0", "=false", `=""`, `="x, y"`, `="\""`} {
				check(t, of(spelling+value), but(set))
				check(t, of("a, "+spelling+value+"\t,b=c"), but(set))
				check(t, of(spelling+value, spelling, spelling+value), but(set))
			}
		}
	}
}

func TestParseOfNumbers(t *testing.T) {
	for name, give := range gives() {
		for _, spelling := range spellings(name) {
			for _, row := range []struct {
				value string
				want  int
			}{
				{"0", 0}, {"00", 0}, {"1", 1}, {"7", 7}, {"007", 7}, {"60", 60}, {"86400", 86400},
				{"2147483646", most - 2}, {"2147483647", most - 1}, {"2147483648", most},
				{"2147483649", most}, {"4294967296", most}, {"9223372036854775807", most}, {"9223372036854775808", most},
				{"18446744073709551616", most}, {"18446744073709551617", most},
				{strings.Repeat("9", 4000), most}, {strings.Repeat("0", 4000) + "12", 12},
			} {
				want := but(func(c *api.Control) { give(c, row.want) })
				check(t, of(spelling+"="+row.value), want)
				check(t, of(spelling+`="`+row.value+`"`), want)
				check(t, of(spelling+`="\`+row.value+`"`), want)
				check(t, of("x, "+spelling+"="+row.value+" ,y"), want)
			}
		}
	}
}

func TestParseOfNoNumbers(t *testing.T) {
	none := map[string]int{"max-age": 0, "s-maxage": 0, "min-fresh": most}
	for name, give := range gives() {
		want := but(func(c *api.Control) { give(c, none[name]) })
		for _, value := range []string{
			"", `=""`, "=a", "=-1", "=-0", "=+1", "=1.5", "=1e3", "=0x10", "=1_000", "=5s", "=a5", `=" 5"`, `="5 "`, `="5,6"`, `="\"5\""`, "=\"\xd9\xa5\"", "=\"\x00\"",
		} {
			check(t, of(name+value), want)
			check(t, of(strings.ToUpper(name)+value), want)
			check(t, of(name+value, name+value), want)
		}
	}
}

func TestParseOfSeveralNumbers(t *testing.T) {
	for _, row := range []struct {
		given       string
		least, most int
	}{
		{"1 2", 1, 2},
		{"2 1", 1, 2},
		{"5 5", 5, 5},
		{"3 9 4", 3, 9},
		{"9 3 4", 3, 9},
		{"4 9 3", 3, 9},
		{"0 7", 0, 7},
		{"7 0", 0, 7},
		{"10 9", 9, 10},
		{"2147483647 2147483648", most - 1, most},
		{"99999999999 7", 7, most},
		{"7 a", 0, most},
		{"a 7", 0, most},
		{"a b", 0, most},
	} {
		for name, give := range gives() {
			want := but(func(c *api.Control) { give(c, row.least) })
			if name == "min-fresh" {
				want = but(func(c *api.Control) { give(c, row.most) })
			}
			var l []string
			for _, value := range strings.Fields(row.given) {
				l = append(l, name+"="+value)
			}
			check(t, of(strings.Join(l, ",")), want)
			check(t, of(l...), want)
		}
	}
}

// Elements that are no directives, and directives that do not count, change
// nothing, and spoil none that stand beside them.
func TestParseIgnores(t *testing.T) {
	var ignored []string
	for _, name := range names() {
		ignored = append(ignored,
			name+" = 5", name+"= 5", name+" =5", name+"\t=5", name+" 5", name+"=5 6", name+"=", name+"=,", name+"==5", name+"=5=6",
			name+":5", name+";q=1", name+"=5;q=1", "="+name, `"`+name+`"`, `"`+name+`"=5`, `x="`+name+`"`, "x="+name, name+`="5"6`, name+`=6"5"`, name+`="5""6"`,
			name+"e", "x"+name, name+"-", "-"+name, strings.ReplaceAll(name, "-", "_")+"!", "("+name+")", name+"\xff", "\xff"+name, name+"=\xff", name+"=5\n", "\n"+name, name+"\x00=5",
			name[1:], name[:len(name)-1]+"=5", `a", `+name+`, "`)
	}
	ignored = append(ignored, "a", "a=b", "immutable", "stale-while-revalidate=5", "max-stale", "max-stale=5", "no-transform", "must-understand", "maxage=5", "s-max-age=5", "no-\u017ftore", "max_age=5", "=", "==", "=5", `""`, `"a"`, "5", "a b", "(", "\\")
	for _, element := range ignored {
		check(t, of(element), but(nil))
		beside := but(func(c *api.Control) { c.Public, c.MaxAge, c.MinFresh = true, 9, 8 })
		check(t, of("max-age=9, "+element+", public", "min-fresh=8"), beside)
		check(t, of("public,max-age=9", element, "min-fresh=8"), beside)
	}
}

// A value that is not a list says nothing else, whatever stands ahead of its
// fault; the other values are read all the same.
func TestParseOfNoList(t *testing.T) {
	both := func(c *api.Control) { c.NoStore, c.NoCache = true, true }
	for _, value := range []string{`"`, `a"`, `private, "`, `max-age=5, x="`, `min-fresh=5, x="a\"`, `public="`, `", private`, `x="\`, `"""`, ` , "`, `only-if-cached, "a", "`} {
		check(t, of(value), but(both))
		check(t, of(value, value), but(both))
		beside := but(func(c *api.Control) { c.NoStore, c.NoCache, c.Private, c.MaxAge = true, true, true, 7 })
		check(t, of("private", value, "max-age=7"), beside)
		check(t, of(value, "private, max-age=7"), beside)
		check(t, of("max-age=7", "max-age=8, private", value), beside)
	}
}

func TestParseOfFieldNames(t *testing.T) {
	for _, name := range spellings("cache-control") {
		check(t, []api.Field{{Name: name, Value: "public"}}, but(func(c *api.Control) { c.Public = true }))
	}
	for _, name := range []string{"", "Cache", "Control", "CacheControl", "Cache_Control", "X-Cache-Control", "Cache-Control ", " Cache-Control", "Cache-Controls", "Pragma", "Surrogate-Control", "Cache-Contro\xec"} {
		l := []api.Field{{Name: name, Value: "no-store, no-cache, max-age=1"}, {Name: name, Value: `"`}}
		check(t, l, but(nil))
		check(t, slices.Concat(l, of("public")), but(func(c *api.Control) { c.Public = true }))
		check(t, slices.Concat(of("public"), l), but(func(c *api.Control) { c.Public = true }))
	}
}

func TestParseLeavesItsFields(t *testing.T) {
	whole := []api.Field{{Name: "Cache-Control", Value: "Public, \"X\""}, {Name: "A", Value: "b"}, {Name: "kept", Value: "kept"}}
	was := slices.Clone(whole)
	first, asked := Parse(whole[:2]), Asked(whole[:2])
	if !slices.Equal(whole, was) {
		t.Errorf("the fields are %q", whole)
	}
	if Parse(whole[:2]) != first || Asked(whole[:2]) != asked {
		t.Error("a second answer is another one")
	}
}

// elements are such as may stand in a field, of each kind.
func elements() []string {
	l := []string{"", " ", "a", `"`, `"x, private"`, "a=\"", `\`, "x=y", "no-storee", "public =1"}
	for name := range sets() {
		l = append(l, name, strings.ToUpper(name)+`="a,b"`)
	}
	for name := range gives() {
		l = append(l, name, name+"=0", name+`="12"`, strings.ToUpper(name)+"=3", name+"=z", name+"=99999999999", name+"= 4")
	}
	slices.Sort(l)
	return l
}

func TestParseByTheDocument(t *testing.T) {
	l := elements()
	for _, a := range l {
		for _, b := range l {
			check(t, of(a+","+b), told(of(a+","+b)))
			check(t, of(a, b), told(of(a, b)))
			for _, c := range l {
				check(t, of(a+" ,\t"+b, c), told(of(a+" ,\t"+b, c)))
			}
		}
	}
}

// strange answers texts of marks, directives and bytes as they come.
func strange(count int) []string {
	r := rand.New(rand.NewSource(13))
	parts := slices.Concat(names(), elements(), []string{",", ",", ",", "=", "=", `"`, `"`, `\`, " ", "\t", "1", "70", "max-age=", "s-maxage=", "min-fresh="})
	all := make([]string, count)
	for i := range all {
		for range r.Intn(12) {
			part := parts[r.Intn(len(parts))]
			if r.Intn(20) == 0 {
				part = string([]byte{byte(r.Intn(256))})
			}
			all[i] += part
		}
	}
	return all
}

func TestParseOfStrangeValues(t *testing.T) {
	l := strange(60000)
	for i, value := range l {
		check(t, of(value), told(of(value)))
		check(t, of(value, l[len(l)-1-i]), told(of(value, l[len(l)-1-i])))
	}
}

func TestParseOfLongFields(t *testing.T) {
	const many = 100000
	check(t, of(strings.Repeat("a, ", many)+"max-age=5"), but(func(c *api.Control) { c.MaxAge = 5 }))
	check(t, of("min-fresh=5"+strings.Repeat(",min-fresh=4,=", many)), but(func(c *api.Control) { c.MinFresh = 5 }))
	check(t, slices.Concat(of("public"), slices.Repeat(of(`"`, "max-age=7"), many)), but(func(c *api.Control) {
		c.NoStore, c.NoCache, c.Public, c.MaxAge = true, true, true, 7
	}))
}

// P13.2: Asked

// pragma answers a field Pragma.
func pragma(value string) api.Field { return api.Field{Name: "Pragma", Value: value} }

func TestAsked(t *testing.T) {
	for _, row := range []struct {
		value string
		want  bool
	}{
		{"no-cache", true}, {"No-Cache", true}, {"NO-CACHE", true}, {"a, No-Cache", true}, {"no-cache,a", true}, {"\tno-cache ,,", true}, {`"a,b", no-cache`, true},
		{"", false}, {"a", false}, {"no-store", false}, {"no-caches", false}, {"no-cache=x", false}, {"no-cache a", false}, {`"no-cache"`, false}, {`"a, no-cache"`, false}, {`no-cache, "`, false}, {"no_cache", false}, {"max-age=0", false}, {"only-if-cached, private", false},
	} {
		want := but(func(c *api.Control) { c.NoCache = row.want })
		for _, name := range spellings("pragma") {
			for _, l := range [][]api.Field{
				{{Name: name, Value: row.value}},
				{{Name: "A", Value: "b"}, {Name: name, Value: row.value}},
				{pragma("x"), {Name: name, Value: row.value}, pragma(`"`)},
				{{Name: name, Value: row.value}, {Name: "X-Cache-Control", Value: "public"}},
			} {
				if c := Asked(l); c != want {
					t.Errorf("Asked(%q) is %+v", l, c)
				}
				check(t, l, but(nil))
			}
		}
	}
}

func TestAskedOfNothing(t *testing.T) {
	for _, l := range [][]api.Field{nil, {}, {{}}, {{Name: "A", Value: "no-cache"}}, {{Name: "Pragmas", Value: "no-cache"}}, {{Name: "X-Pragma", Value: "no-cache"}}, {{Name: "", Value: "no-cache"}}} {
		if c := Asked(l); c != but(nil) {
			t.Errorf("Asked(%q) is %+v", l, c)
		}
	}
}

// A field Cache-Control counts, whatever it says, and Pragma does not any more.
func TestAskedBesideCacheControl(t *testing.T) {
	for _, value := range slices.Concat(elements(), names(), strange(2000)) {
		for _, name := range spellings("cache-control") {
			f := api.Field{Name: name, Value: value}
			want := told([]api.Field{f})
			for _, l := range [][]api.Field{{f}, {f, pragma("no-cache")}, {pragma("no-cache"), f}, {pragma("no-cache"), f, pragma("a, no-cache")}} {
				if c := Asked(l); c != want {
					t.Fatalf("Asked(%q) is %+v, want %+v", l, c, want)
				}
			}
		}
	}
}

func TestAskedByTheDocument(t *testing.T) {
	r := rand.New(rand.NewSource(132))
	fieldNames := []string{"Pragma", "pragma", "PRAGMA", "Cache-Control", "A"}
	words := slices.Concat(elements(), []string{"no-cache", "no-cache", "NO-cache", `no-cache, "`})
	for range 50000 {
		var l []api.Field
		for range r.Intn(4) {
			l = append(l, api.Field{Name: fieldNames[r.Intn(len(fieldNames))], Value: words[r.Intn(len(words))] + ", " + words[r.Intn(len(words))]})
		}
		if c := Asked(l); c != toldAsked(l) {
			t.Fatalf("Asked(%q) is %+v, want %+v", l, c, toldAsked(l))
		}
	}
}

// P13.2: Least

func TestLeast(t *testing.T) {
	for _, row := range []struct{ a, b, want int }{
		{1, 2, 1}, {4, 0, 0}, {0, 0, 0}, {3, 3, 3}, {5, -1, 5}, {0, -1, 0}, {-1, -1, -1}, {-1, -7, -1}, {-8, -7, -1}, {0, -9, 0}, {7, -9, 7},
		{most, most + 1, most}, {math.MaxInt, 0, 0}, {math.MaxInt, math.MaxInt - 1, math.MaxInt - 1}, {math.MaxInt, math.MinInt, math.MaxInt}, {0, math.MinInt, 0}, {math.MinInt, math.MinInt, -1}, {-1, math.MinInt, -1},
	} {
		if n := Least(row.a, row.b); n != row.want {
			t.Errorf("Least(%d, %d) is %d", row.a, row.b, n)
		}
		if n := Least(row.b, row.a); n != row.want {
			t.Errorf("Least(%d, %d) is %d", row.b, row.a, n)
		}
	}
}

func TestLeastByTheDocument(t *testing.T) {
	for a := -40; a <= 40; a++ {
		for b := -40; b <= 40; b++ {
			want := -1
			for n := 40; n >= 0; n-- {
				if n == a || n == b {
					want = n
				}
			}
			if n := Least(a, b); n != want {
				t.Fatalf("Least(%d, %d) is %d, want %d", a, b, n, want)
			}
		}
	}
}

// P13.3: Print

func TestPrint(t *testing.T) {
	for _, row := range []struct {
		c    api.Control
		want string
	}{
		{but(nil), ""},
		{api.Control{}, "max-age=0, s-maxage=0, min-fresh=0"},
		{api.Control{MaxAge: -2, Shared: math.MinInt, MinFresh: -1}, ""},
		{but(func(c *api.Control) { c.NoStore = true }), "no-store"},
		{but(func(c *api.Control) { c.NoCache = true }), "no-cache"},
		{but(func(c *api.Control) { c.Private = true }), "private"},
		{but(func(c *api.Control) { c.Public = true }), "public"},
		{but(func(c *api.Control) { c.MustCheck = true }), "must-revalidate"},
		{but(func(c *api.Control) { c.OnlyIf = true }), "only-if-cached"},
		{but(func(c *api.Control) { c.MaxAge = 60 }), "max-age=60"},
		{but(func(c *api.Control) { c.Shared = most }), "s-maxage=2147483648"},
		{but(func(c *api.Control) { c.MinFresh = math.MaxInt }), "min-fresh=9223372036854775807"},
		{api.Control{NoCache: true, OnlyIf: true, MaxAge: 0, Shared: -5, MinFresh: 2}, "no-cache, only-if-cached, max-age=0, min-fresh=2"},
		{api.Control{NoStore: true, NoCache: true, Private: true, Public: true, MustCheck: true, OnlyIf: true, MaxAge: 1, Shared: 2, MinFresh: 3}, "no-store, no-cache, private, public, must-revalidate, only-if-cached, max-age=1, s-maxage=2, min-fresh=3"},
	} {
		if s := Print(row.c); s != row.want {
			t.Errorf("Print(%+v) is %q", row.c, s)
		}
	}
}

func TestPrintByTheDocument(t *testing.T) {
	for _, c := range controls(math.MinInt, -5, -1, 0, 1, 10, most-1, most, most+1, math.MaxInt) {
		if s := Print(c); s != toldPrint(c) {
			t.Fatalf("Print(%+v) is %q, want %q", c, s, toldPrint(c))
		}
	}
}

// P13.4

func TestPrintedIsParsed(t *testing.T) {
	for _, c := range controls(-1, 0, 1, 9, 10, 86400, most-2, most-1, most) {
		check(t, of(Print(c)), c)
		if asked := Asked(of(Print(c))); asked != c {
			t.Fatalf("Asked of %q is %+v", Print(c), asked)
		}
	}
	for n := -1; n <= 5000; n++ {
		c := api.Control{MaxAge: n, Shared: 5000 - n, MinFresh: most - 1 - n}
		check(t, of(Print(c)), c)
	}
}

// spread puts elements into fields as they come, with other fields between.
func spread(r *rand.Rand, l []string) []api.Field {
	var all []api.Field
	for len(l) > 0 {
		n := 1 + r.Intn(len(l))
		name := spellings("cache-control")[r.Intn(3)]
		all = append(all, api.Field{Name: name, Value: strings.Join(l[:n], ", ")}, api.Field{Name: "A", Value: "no-store"})
		l = l[n:]
	}
	return all
}

func TestOrderDoesNotMatter(t *testing.T) {
	r := rand.New(rand.NewSource(134))
	sound := slices.DeleteFunc(elements(), func(s string) bool { return !isList.MatchString(s) })
	for range 3000 {
		var l []string
		for range r.Intn(7) {
			l = append(l, sound[r.Intn(len(sound))])
		}
		want := Parse(of(strings.Join(l, ",")))
		for range 12 {
			r.Shuffle(len(l), func(i, j int) { l[i], l[j] = l[j], l[i] })
			check(t, spread(r, l), want)
		}
	}
}

// Whole fields may change places even if they are no lists.
func TestOrderOfFieldsDoesNotMatter(t *testing.T) {
	r := rand.New(rand.NewSource(135))
	values := strange(3000)
	for range 3000 {
		l := of(values[r.Intn(len(values))], values[r.Intn(len(values))], values[r.Intn(len(values))])
		want := Parse(l)
		for range 6 {
			r.Shuffle(len(l), func(i, j int) { l[i], l[j] = l[j], l[i] })
			check(t, l, want)
		}
	}
}
