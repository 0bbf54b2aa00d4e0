package life

import (
	"maps"
	"math"
	"math/rand"
	"reflect"
	"slices"
	"strings"
	"testing"
	"time"

	"depot/api"
)

// The numbers that the document names, written out, so that a test does not
// lean on the constants that the package uses.
const (
	most     = 2147483648
	maxClock = 253402300799
	day      = 86400
)

// docUsual has the codes that the document lists.
func docUsual() []int {
	return []int{200, 203, 204, 300, 301, 308, 404, 405, 410, 414, 501}
}

// at answers a time as a field tells it.
func at(t int) string {
	return time.Unix(int64(t), 0).UTC().Format("Mon, 02 Jan 2006 15:04:05 GMT")
}

// dates has values that tell times, with what they tell.
func dates() map[string]int {
	m := map[string]int{
		"Thursday, 01-Jan-70 00:00:05 GMT": 5,
		"Thu Jan  1 00:10:00 1970":         600,
		"Sun, 06 Nov 1994 08:49:37 GMT":    784111777,
		"Sunday, 06-Nov-94 08:49:37 GMT":   784111777,
		"Sun Nov  6 08:49:37 1994":         784111777,
		"Fri, 31 Dec 9999 23:59:59 GMT":    maxClock,
	}
	for _, t := range []int{0, 1, 9, 10, 99, 100, 600, 700, day, 10*day - 1, 10 * day, 10*day + 10, most - 1, most, most + 1, 784111778, 784111786, 784111787, maxClock - 1, maxClock - most} {
		m[at(t)] = t
	}
	return m
}

// noDates has values that tell no time.
func noDates() []string {
	return []string{
		"", " ", "0", "-1", "100", "now", "Thu", "Thu, 01 Jan 1970 00:00:00", "Thu, 01 Jan 1970 00:00:00 UTC",
		"thu, 01 jan 1970 00:00:00 gmt", "Fri, 01 Jan 1970 00:00:00 GMT", "Thu, 1 Jan 1970 00:00:00 GMT",
		"Thu, 01 Jan 1970 24:00:00 GMT", "Thu, 01 Jan 1970 00:00:60 GMT", "Wed, 31 Dec 1969 23:59:59 GMT",
		"Thu, 30 Feb 1995 00:00:00 GMT", "Sat, 01 Jan 10000 00:00:00 GMT", `"Thu, 01 Jan 1970 00:00:00 GMT"`,
		" Thu, 01 Jan 1970 00:00:00 GMT", "Thu, 01 Jan 1970 00:00:00 GMT ", "Thu, 01 Jan 1970 00:00:00 GMT, x",
		"Thu, 01 Jan 1970 00:00:00 GMT, Thu, 01 Jan 1970 00:00:00 GMT",
	}
}

// said is what a value of Cache-Control says of the two numbers; -1: nothing.
type said struct{ shared, maxAge int }

// controls has values of Cache-Control, with what they say.
func controls() map[string]said {
	return map[string]said{
		"":                               {-1, -1},
		"no-store, private, no-cache":    {-1, -1},
		"public, must-revalidate":        {-1, -1},
		"min-fresh=5, stale=7":           {-1, -1},
		"max-age=60":                     {-1, 60},
		"MAX-AGE=61":                     {-1, 61},
		`max-age="62"`:                   {-1, 62},
		"max-age=0":                      {-1, 0},
		"max-age=x":                      {-1, 0},
		"max-age":                        {-1, 0},
		"max-age=-1":                     {-1, 0},
		"max-age=2147483647":             {-1, most - 1},
		"max-age=2147483648":             {-1, most},
		"max-age=99999999999":            {-1, most},
		"max-age=9, max-age=3":           {-1, 3},
		"max-age = 5":                    {-1, -1},
		"s-maxage=50":                    {50, -1},
		"s-maxage=0":                     {0, -1},
		"s-maxage=y":                     {0, -1},
		"S-Maxage=9999999999":            {most, -1},
		"s-maxage=7, max-age=70":         {7, 70},
		"max-age=8, s-maxage=80":         {80, 8},
		"max-age=8, s-maxage=0":          {0, 8},
		"max-age=0, s-maxage=81":         {81, 0},
		"x-max-age=5, s-maxages=6":       {-1, -1},
		`max-age=5, s-maxage=6, "`:       {-1, -1},
		`x="max-age=5, s-maxage=6"`:      {-1, -1},
		"no-cache, max-age=63, private":  {-1, 63},
		"no-store, ,s-maxage=64, public": {64, -1},
	}
}

// ages has values of Age, with the greatest number that each of them tells.
func ages() map[string]int {
	return map[string]int{
		"": 0, "0": 0, "1": 1, "50": 50, "007": 7, "3, 120": 120, "120, 3": 120, ",, 4 ,\t9,": 9, "x": 0, "-5": 0, "+5": 0,
		"5.5": 0, "5 6": 0, "5s": 0, "0x10": 0, "x, 8": 8, "8, -9": 8, `"7"`: 0, `"7", 6`: 6, `5, "`: 0, `"5, 6"`: 0,
		"2147483647": most - 1, "2147483648": most, "2147483649": most, "99999999999": most, "99999999999999999999999": most,
		"1, 99999999999": most, "\u0665": 0, "9\x00": 0,
	}
}

// lower makes the letters A to Z of a text small, and no others.
func lower(s string) string {
	b := []byte(s)
	for i, c := range b {
		if c >= 65 && c <= 90 {
			b[i] = c + 32
		}
	}
	return string(b)
}

// valuesOf answers the values of all fields of a name.
func valuesOf(l []api.Field, name string) []string {
	var all []string
	for _, f := range l {
		if lower(f.Name) == lower(name) {
			all = append(all, f.Value)
		}
	}
	return all
}

// teller answers by the words of the document what the package is to answer of
// fields whose values are of those above.
type teller struct {
	dates    map[string]int
	controls map[string]said
	ages     map[string]int
	values   map[string][]string // of each field that counts
	names    []string            // of these
	none     []string
	far      []int
}

func newTeller() teller {
	w := teller{dates: dates(), controls: controls(), ages: ages(), none: noDates(), far: far()}
	times := slices.Sorted(maps.Keys(w.dates))
	w.values = map[string][]string{
		"Date": times, "Expires": times, "Last-Modified": times,
		"Cache-Control": slices.Sorted(maps.Keys(w.controls)), "Age": slices.Sorted(maps.Keys(w.ages)),
	}
	w.names = slices.Sorted(maps.Keys(w.values))
	return w
}

// within answers the number of a range that is the nearest to another one.
func within(n, last int) int {
	if n < 0 {
		return 0
	}
	if n > last {
		return last
	}
	return n
}

// gap answers the difference of two times.
func gap(later, earlier int) int {
	return within(within(later, maxClock)-within(earlier, maxClock), most)
}

func (w teller) when(l []api.Field, name string) (int, bool) {
	all := valuesOf(l, name)
	if len(all) != 1 {
		return 0, false
	}
	t, ok := w.dates[all[0]]
	return t, ok
}

func (w teller) date(s api.Stored) int {
	if t, ok := w.when(s.Reply.Fields, "Date"); ok {
		return t
	}
	return s.Time
}

// given answers the lesser of two numbers that are given.
func given(a, b int) int {
	if a < 0 || b >= 0 && b < a {
		return b
	}
	return a
}

func (w teller) lifetime(s api.Stored) int {
	c := said{-1, -1}
	for _, value := range valuesOf(s.Reply.Fields, "Cache-Control") {
		c = said{given(c.shared, w.controls[value].shared), given(c.maxAge, w.controls[value].maxAge)}
	}
	if c.shared >= 0 {
		return c.shared
	}
	if c.maxAge >= 0 {
		return c.maxAge
	}
	if len(valuesOf(s.Reply.Fields, "Expires")) > 0 {
		end, ok := w.when(s.Reply.Fields, "Expires")
		if !ok {
			return 0
		}
		return gap(end, w.date(s))
	}
	changed, ok := w.when(s.Reply.Fields, "Last-Modified")
	if !ok || !slices.Contains(docUsual(), s.Reply.Code) || changed > w.date(s) {
		return 0
	}
	return within(gap(w.date(s), changed)/10, day)
}

func (w teller) told(r api.Reply) int {
	n := 0
	for _, value := range valuesOf(r.Fields, "Age") {
		n = max(n, w.ages[value])
	}
	return n
}

func (w teller) age(s api.Stored, now int) int {
	return within(max(w.told(s.Reply), gap(s.Time, w.date(s)))+gap(now, s.Time), most)
}

// list makes fields of names and values that take turns.
func list(texts ...string) []api.Field {
	var l []api.Field
	for i := 0; i+1 < len(texts); i += 2 {
		l = append(l, api.Field{Name: texts[i], Value: texts[i+1]})
	}
	return l
}

// stored answers a reply of code 200 that came at some time.
func stored(came int, texts ...string) api.Stored {
	return api.Stored{Reply: api.Reply{Code: 200, Fields: list(texts...)}, Time: came}
}

// coded answers it with another code.
func coded(code int, s api.Stored) api.Stored {
	s.Reply.Code = code
	return s
}

// far are integers far from those that a time has.
func far() []int {
	l := []int{math.MinInt, math.MinInt + 1, -maxClock, -most, -1, maxClock + 1, maxClock + most, math.MaxInt - 1, math.MaxInt}
	for i := 38; i < 63; i++ {
		l = append(l, 1<<i, 1<<i-1, -1<<i)
	}
	return l
}

// mixed answers a stored reply of any kind, and a time at which it is asked of.
func (w teller) mixed(r *rand.Rand) (api.Stored, int) {
	some := func(l []string) string { return l[r.Intn(len(l))] }
	distant := func() int { return w.far[r.Intn(len(w.far))] }
	s := coded(docUsual()[r.Intn(11)], stored(w.dates[some(w.values["Date"])]+r.Intn(20)))
	for range r.Intn(7) {
		name := some(w.names)
		value := some(w.values[name])
		if r.Intn(8) == 0 && name != "Cache-Control" && name != "Age" {
			value = some(w.none)
		}
		name = []string{name, lower(name), strings.ToUpper(name), "X-" + name}[r.Intn(4)]
		s.Reply.Fields = append(s.Reply.Fields, api.Field{Name: name, Value: value})
	}
	if r.Intn(8) == 0 {
		s.Reply.Code = []int{0, 201, 302, 304, 500, -200}[r.Intn(6)]
	}
	if r.Intn(16) == 0 {
		s.Time = distant()
	}
	switch r.Intn(8) {
	case 0:
		return s, r.Intn(maxClock)
	case 1:
		return s, distant()
	case 2:
		return s, s.Time - r.Intn(1000)
	case 3:
		return s, s.Time + r.Intn(most+1)
	}
	return s, s.Time + r.Intn(1000)
}

// copied answers a stored reply that shares no lists with another one.
func copied(s api.Stored) api.Stored {
	s.Reply.Fields, s.Picks = slices.Clone(s.Reply.Fields), slices.Clone(s.Picks)
	return s
}

// kept fails if a stored reply is not what it was.
func kept(t *testing.T, s, before api.Stored) {
	t.Helper()
	if !slices.Equal(s.Reply.Fields, before.Reply.Fields) || !slices.Equal(s.Picks, before.Picks) {
		t.Fatalf("%.300q has become %.300q", []any{before}, []any{s})
	}
}

func checkWhen(t *testing.T, l []api.Field, name string, want int, ok bool) {
	t.Helper()
	before := slices.Clone(l)
	if n, is := When(l, name); n != want || is != ok {
		t.Fatalf("When(%.200q, %q) is %d, %v, want %d, %v", l, name, n, is, want, ok)
	}
	if !slices.Equal(l, before) {
		t.Fatalf("When changed %.200q into %.200q", before, l)
	}
}

// checkStored holds what a function of the package answers of a stored reply
// against what it is to answer.
func checkStored(t *testing.T, name string, of func(api.Stored) int, s api.Stored, want int) {
	t.Helper()
	before := copied(s)
	if n := of(s); n != want {
		t.Fatalf("%s(%.300q) is %d, want %d", name, []any{s}, n, want)
	}
	kept(t, s, before)
}

func checkDate(t *testing.T, s api.Stored, want int) {
	t.Helper()
	checkStored(t, "Date", Date, s, want)
}

func checkLifetime(t *testing.T, s api.Stored, want int) {
	t.Helper()
	checkStored(t, "Lifetime", Lifetime, s, want)
}

func checkTold(t *testing.T, l []api.Field, want int) {
	t.Helper()
	before := slices.Clone(l)
	if n := Told(api.Reply{Fields: l}); n != want {
		t.Fatalf("Told(%.200q) is %d, want %d", l, n, want)
	}
	if !slices.Equal(l, before) {
		t.Fatalf("Told changed %.200q into %.200q", before, l)
	}
}

// checkAge asks for an age, and for what follows from it and a lifetime.
func checkAge(t *testing.T, s api.Stored, now, age, lifetime int) {
	t.Helper()
	before := copied(s)
	if n := Age(s, now); n != age {
		t.Fatalf("Age(%.300q, %d) is %d, want %d", []any{s}, now, n, age)
	}
	if is := Fresh(s, now); is != (lifetime > age) {
		t.Fatalf("Fresh(%.300q, %d) is %v: %d of %d", []any{s}, now, is, age, lifetime)
	}
	if n := Left(s, now); n != max(0, lifetime-age) {
		t.Fatalf("Left(%.300q, %d) is %d: %d of %d", []any{s}, now, n, age, lifetime)
	}
	kept(t, s, before)
}

// The values that tell times do so by the library of the language as well.
func TestDatesOfTheTests(t *testing.T) {
	forms := []string{"Mon, 02 Jan 2006 15:04:05 GMT", "Monday, 02-Jan-06 15:04:05 GMT", "Mon Jan _2 15:04:05 2006"}
	for value, want := range dates() {
		ok := false
		for _, form := range forms {
			u := time.Unix(int64(want), 0).UTC()
			ok = ok || u.Format(form) == value
		}
		if !ok {
			t.Errorf("%q is not %d", value, want)
		}
	}
}

// P17.1: When

func TestWhen(t *testing.T) {
	for value, want := range dates() {
		checkWhen(t, list("Date", value), "Date", want, true)
		checkWhen(t, list("a", "1", "x-Y", value, "b", "2"), "X-y", want, true)
		checkWhen(t, list("a", at(7), "Expires", value, "b", at(8)), "EXPIRES", want, true)
		checkWhen(t, list("", value), "", want, true)
	}
}

func TestWhenOfNone(t *testing.T) {
	checkWhen(t, nil, "Date", 0, false)
	checkWhen(t, []api.Field{}, "Date", 0, false)
	checkWhen(t, nil, "", 0, false)
	checkWhen(t, list("Date", at(7)), "", 0, false)
	for _, name := range []string{"Dat", "Dates", "Date ", " Date", "X-Date", "Expires", "D\u00e4te", "Date\x00", ""} {
		checkWhen(t, list(name, at(7)), "Date", 0, false)
		checkWhen(t, list("Date", at(7)), name, 0, false)
		checkWhen(t, list(name, at(7), "Date", at(8), name, at(9)), "date", 8, true)
	}
}

// More than one field tell no time, even if they tell the same, and also if
// only one of them tells any.
func TestWhenOfSeveral(t *testing.T) {
	for value := range dates() {
		checkWhen(t, list("Date", value, "Date", value), "Date", 0, false)
		checkWhen(t, list("Date", value, "a", "1", "DATE", value), "Date", 0, false)
		for _, other := range noDates() {
			checkWhen(t, list("Date", value, "date", other), "Date", 0, false)
			checkWhen(t, list("date", other, "Date", value), "Date", 0, false)
		}
	}
	// Together they read as a date, joined as fields are.
	checkWhen(t, list("Date", "Thu", "Date", "01 Jan 1970 00:00:00 GMT"), "Date", 0, false)
}

func TestWhenOfNoDate(t *testing.T) {
	for _, value := range noDates() {
		checkWhen(t, list("Date", value), "Date", 0, false)
		checkWhen(t, list("Date", value, "Expires", at(7)), "Date", 0, false)
		checkWhen(t, list("Date", value, "Expires", at(7)), "Expires", 7, true)
	}
	value := at(784111777)
	for i := range len(value) {
		checkWhen(t, list("Date", value[:i]), "Date", 0, false)
		checkWhen(t, list("Date", value[:i]+value[i+1:]), "Date", 0, false)
		for _, c := range []string{"\x00", " ", "x", "\xff", ","} {
			if value[i:i+1] != c {
				checkWhen(t, list("Date", value[:i]+c+value[i+1:]), "Date", 0, false)
			}
			checkWhen(t, list("Date", value[:i]+c+value[i:]), "Date", 0, false)
		}
	}
	checkWhen(t, list("Date", value+strings.Repeat(" ", 1<<20)), "Date", 0, false)
}

// P17.1: Date

func TestDate(t *testing.T) {
	for value, want := range dates() {
		for _, came := range []int{0, 100, 784111777, maxClock, -1, math.MinInt, math.MaxInt} {
			checkDate(t, stored(came, "Date", value), want)
			checkDate(t, stored(came, "a", "1", "DATE", value, "Expires", at(7)), want)
		}
	}
}

// A reply that does not say when it was made came when it was made, whenever
// that was.
func TestDateOfNone(t *testing.T) {
	for _, came := range append(far(), 0, 1, 100, 784111777, maxClock-1, maxClock) {
		checkDate(t, stored(came), came)
		checkDate(t, stored(came, "Expires", at(7), "Last-Modified", at(8), "X-Date", at(9)), came)
		checkDate(t, stored(came, "Date", at(7), "Date", at(7)), came)
		for _, value := range noDates() {
			checkDate(t, stored(came, "Date", value), came)
			checkDate(t, stored(came, "Date", at(7), "date", value), came)
		}
	}
}

// P17.2: Usual

func TestUsual(t *testing.T) {
	for code := -1000; code <= 100000; code++ {
		if is := Usual(code); is != slices.Contains(docUsual(), code) {
			t.Errorf("Usual(%d) is %v", code, is)
		}
	}
	for _, code := range far() {
		if Usual(code) {
			t.Errorf("Usual(%d)", code)
		}
	}
}

// P17.2: Lifetime

func TestLifetime(t *testing.T) {
	for _, row := range []struct {
		s    api.Stored
		want int
	}{
		{stored(700), 0},
		{stored(700, "Date", at(600)), 0},
		{stored(700, "Cache-Control", "s-maxage=5, max-age=7", "Expires", at(800)), 5},
		{stored(700, "Cache-Control", "s-maxage=0, max-age=7", "Expires", at(800)), 0},
		{stored(700, "Cache-Control", "max-age=7", "Expires", at(800)), 7},
		{stored(700, "Cache-Control", "max-age=0", "Expires", at(800), "Last-Modified", at(0)), 0},
		{stored(700, "Cache-Control", "max-age=7", "cache-control", "s-maxage=9", "CACHE-CONTROL", "max-age=3"), 9},
		{stored(700, "Cache-Control", "no-store, no-cache, private", "Expires", at(800)), 100},
		{stored(700, "Cache-Control", `max-age=7, "`, "Expires", at(800)), 100},
		{stored(700, "X-Cache-Control", "max-age=7", "Expires", at(800)), 100},
		{stored(700, "Pragma", "no-cache, max-age=7", "Expires", at(800)), 100},
		{stored(700, "Date", at(600), "Expires", at(900)), 300},
		{stored(700, "Date", at(800), "Expires", at(900)), 100},
		{stored(700, "Date", at(900), "Expires", at(900)), 0},
		{stored(700, "Date", at(901), "Expires", at(900)), 0},
		{stored(700, "Date", at(899), "Expires", at(900)), 1},
		{stored(700, "Date", "x", "Expires", at(900)), 200},
		{stored(700, "Date", at(600), "Date", at(600), "Expires", at(900)), 200},
		{stored(700, "Date", at(600), "Last-Modified", at(0)), 60},
		{stored(700, "Last-Modified", at(0)), 70},
		{stored(700, "Date", at(609), "Last-Modified", at(600)), 0},
		{stored(700, "Date", at(610), "Last-Modified", at(600)), 1},
		{stored(700, "Date", at(619), "Last-Modified", at(600)), 1},
		{stored(700, "Date", at(620), "Last-Modified", at(600)), 2},
		{stored(700, "Date", at(600), "Last-Modified", at(600)), 0},
		{stored(700, "Date", at(600), "Last-Modified", at(620)), 0},
		{stored(700, "Date", at(600), "Last-Modified", at(maxClock)), 0},
		{stored(0, "Date", at(864009), "Last-Modified", at(19)), 86399},
		{stored(0, "Date", at(864009), "Last-Modified", at(10)), 86399},
		{stored(0, "Date", at(864009), "Last-Modified", at(9)), 86400},
		{stored(0, "Date", at(864019), "Last-Modified", at(9)), 86400},
		{stored(0, "Date", at(maxClock), "Last-Modified", at(0)), 86400},
		{stored(10000000, "Last-Modified", at(0)), 86400},
		{stored(700, "Last-Modified", at(0), "Last-Modified", at(0)), 0},
		{stored(700, "Last-Modified", "0"), 0},
	} {
		checkLifetime(t, row.s, row.want)
	}
}

// What is said first counts: s-maxage, max-age, and Expires, whatever it tells.
func TestLifetimeOfControls(t *testing.T) {
	for value, c := range controls() {
		want, other := 300, 60
		if c.maxAge >= 0 {
			want, other = c.maxAge, c.maxAge
		}
		if c.shared >= 0 {
			want, other = c.shared, c.shared
		}
		for _, code := range []int{0, 200, 302, 501} {
			checkLifetime(t, coded(code, stored(700, "cache-Control", value, "Date", at(600), "Expires", at(900), "Last-Modified", at(0))), want)
		}
		checkLifetime(t, stored(700, "Last-Modified", at(0), "Date", at(600), "Cache-Control", value), other)
	}
}

// A field Expires that tells no time ends the lifetime, as several do: also of
// a reply that has changed long ago.
func TestLifetimeOfExpires(t *testing.T) {
	for _, value := range noDates() {
		checkLifetime(t, stored(700, "Expires", value), 0)
		checkLifetime(t, stored(700, "Expires", value, "Date", at(600), "Last-Modified", at(0)), 0)
		checkLifetime(t, stored(700, "Expires", value, "expires", at(900), "Last-Modified", at(0)), 0)
		checkLifetime(t, stored(-5, "Expires", value), 0)
	}
	checkLifetime(t, stored(700, "Expires", at(900), "Expires", at(900), "Last-Modified", at(0)), 0)
	for value, end := range dates() {
		for _, made := range []int{0, 1, 600, day, most, 784111777, maxClock} {
			want := within(end-made, most)
			checkLifetime(t, stored(700, "EXPIRES", value, "Date", at(made)), want)
			checkLifetime(t, coded(500, stored(made, "expires", value, "Last-Modified", at(0))), want)
		}
	}
}

// A lifetime that nobody says is that of the usual codes alone.
func TestLifetimeOfCodes(t *testing.T) {
	for code := -10; code <= 1000; code++ {
		want := 0
		if slices.Contains(docUsual(), code) {
			want = 60
		}
		checkLifetime(t, coded(code, stored(700, "Date", at(600), "Last-Modified", at(0))), want)
		checkLifetime(t, coded(code, stored(700, "Date", at(600), "Expires", at(700), "Last-Modified", at(0))), 100)
	}
}

// Times are clamped before they are subtracted, and so is what that comes to.
func TestLifetimeOfFarTimes(t *testing.T) {
	for _, came := range far() {
		early, late := most, 0
		if came > maxClock {
			early, late = 0, day
		}
		checkLifetime(t, stored(came, "Expires", at(maxClock)), early)
		checkLifetime(t, stored(came, "Last-Modified", at(0)), late)
		checkLifetime(t, stored(came, "Last-Modified", at(maxClock-100)), min(late, 10))
		checkLifetime(t, stored(came, "Expires", at(100)), min(early, 100))
	}
	checkLifetime(t, stored(0, "Date", at(5), "Expires", at(most+4)), most-1)
	checkLifetime(t, stored(0, "Date", at(5), "Expires", at(most+5)), most)
	checkLifetime(t, stored(0, "Date", at(5), "Expires", at(most+6)), most)
}

// P17.3: Told

func TestTold(t *testing.T) {
	checkTold(t, nil, 0)
	checkTold(t, []api.Field{}, 0)
	checkTold(t, list("a", "5", "Ages", "6", "X-Age", "7", "Ag", "8", "", "9"), 0)
	for value, want := range ages() {
		checkTold(t, list("Age", value), want)
		checkTold(t, list("a", "1", "aGE", value, "b", "2"), want)
		for other, n := range ages() {
			checkTold(t, list("Age", value, "age", other), max(want, n))
			checkTold(t, list("Age", "x", "AGE", value, "Date", at(7), "Age", other, "Age", "2"), max(want, n, 2))
		}
	}
}

func TestToldOfEachByte(t *testing.T) {
	for c := range 256 {
		b := string([]byte{byte(c)})
		digit, alone, blank := c >= '0' && c <= '9', 0, c == ' ' || c == '\t' || c == ','
		if digit {
			alone = c - '0'
		}
		checkTold(t, list("Age", b), alone)
		switch {
		case digit:
			checkTold(t, list("Age", "5"+b), 50+alone)
			checkTold(t, list("Age", b+"5"), 10*alone+5)
		case blank:
			checkTold(t, list("Age", "5"+b), 5)
			checkTold(t, list("Age", b+"5"), 5)
		default:
			checkTold(t, list("Age", "5"+b), 0)
			checkTold(t, list("Age", b+"5"), 0)
		}
	}
}

func TestToldOfManyAndLong(t *testing.T) {
	const many = 100000
	checkTold(t, list("Age", strings.Repeat("1, ", many)+"3"+strings.Repeat(",2", many)), 3)
	checkTold(t, list("Age", strings.Repeat("0", many)+"7"), 7)
	checkTold(t, list("Age", strings.Repeat("7", many)), most)
	checkTold(t, list("Age", strings.Repeat("9,", many)+`"`), 0)
	checkTold(t, append(slices.Repeat(list("Age", "5", "b", "9"), many), list("age", "6")...), 6)
}

// P17.3: Age, Fresh, Left

func TestAge(t *testing.T) {
	for _, row := range []struct {
		s                   api.Stored
		now, want, lifetime int
	}{
		{stored(100, "Cache-Control", "max-age=60"), 130, 30, 60},
		{stored(100, "Cache-Control", "max-age=60"), 159, 59, 60},
		{stored(100, "Cache-Control", "max-age=60"), 160, 60, 60},
		{stored(100, "Cache-Control", "max-age=60"), 161, 61, 60},
		{stored(100, "Cache-Control", "max-age=60"), 100, 0, 60},
		{stored(100, "Cache-Control", "max-age=60"), 99, 0, 60},
		{stored(100, "Cache-Control", "max-age=60", "Age", "50"), 130, 80, 60},
		{stored(100, "Cache-Control", "max-age=60", "Age", "50"), 109, 59, 60},
		{stored(100, "Cache-Control", "max-age=60", "Age", "50"), 110, 60, 60},
		{stored(100, "Cache-Control", "max-age=0"), 100, 0, 0},
		{stored(100), 100, 0, 0},
		{stored(100), 150, 50, 0},
		{stored(700, "Date", at(600)), 700, 100, 0},
		{stored(700, "Date", at(600)), 750, 150, 0},
		{stored(700, "Date", at(600), "Age", "3, 120"), 750, 170, 0},
		{stored(700, "Date", at(600), "Age", "100"), 750, 150, 0},
		{stored(700, "Date", at(600), "Age", "99"), 750, 150, 0},
		{stored(700, "Date", at(600), "Age", "101"), 750, 151, 0},
		{stored(700, "Date", at(800)), 750, 50, 0},
		{stored(700, "Date", at(800), "Age", "5"), 750, 55, 0},
		{stored(700, "Date", at(600), "Date", at(600)), 750, 50, 0},
		{stored(700, "Date", "x"), 750, 50, 0},
		{stored(500, "Date", at(600)), 400, 0, 0},
		{stored(700, "Date", at(600)), 650, 100, 0},
		{stored(700, "Date", at(600), "Expires", at(800)), 750, 150, 200},
		{stored(700, "Date", at(600), "Expires", at(800)), 799, 199, 200},
		{stored(700, "Date", at(600), "Expires", at(800)), 800, 200, 200},
		{stored(0, "Age", "99999999999"), 5, most, 0},
		{stored(0, "Age", "2147483647", "Cache-Control", "max-age=2147483648"), 0, most - 1, most},
		{stored(0, "Age", "2147483647", "Cache-Control", "max-age=2147483648"), 1, most, most},
		{stored(0, "Age", "2147483647", "Cache-Control", "max-age=2147483648"), 2, most, most},
		{stored(0, "Age", "2147483648", "Cache-Control", "max-age=2147483648"), 0, most, most},
		{stored(0, "Cache-Control", "max-age=2147483648"), most - 1, most - 1, most},
		{stored(0, "Cache-Control", "max-age=2147483648"), most, most, most},
		{stored(0, "Cache-Control", "s-maxage=9999999999"), most + 1, most, most},
		{stored(most+9, "Date", at(10)), most + 9, most - 1, 0},
		{stored(most+9, "Date", at(8)), most + 9, most, 0},
		{stored(maxClock, "Date", at(0)), maxClock, most, 0},
		{stored(0, "Date", at(maxClock)), maxClock, most, 0},
	} {
		checkAge(t, row.s, row.now, row.want, row.lifetime)
		checkLifetime(t, row.s, row.lifetime)
	}
}

// Times that no clock shows count as the nearest ones that a clock shows.
func TestAgeOfFarTimes(t *testing.T) {
	for _, n := range far() {
		late := n > maxClock
		passed := 0
		if late {
			passed = most
		}
		checkAge(t, stored(0), n, passed, 0)
		checkAge(t, stored(maxClock-100), n, min(passed, 100), 0)
		checkAge(t, stored(n), maxClock, most-passed, 0)
		checkAge(t, stored(n, "Date", at(maxClock-100)), maxClock, min(most-passed+min(passed, 100), most), 0)
		checkAge(t, stored(n, "Date", at(0)), 0, passed, 0)
		checkAge(t, stored(n, "Age", "7"), n, 7, 0)
		for _, m := range far() {
			if m > maxClock == late {
				checkAge(t, stored(n), m, 0, 0)
			}
		}
	}
}

// All of the package holds against the words of the document.
func TestByTheDocument(t *testing.T) {
	w := newTeller()
	r := rand.New(rand.NewSource(17))
	for range 30000 {
		s, now := w.mixed(r)
		for _, name := range []string{"Date", "expires", "LAST-MODIFIED", "X-Date"} {
			n, ok := w.when(s.Reply.Fields, name)
			checkWhen(t, s.Reply.Fields, name, n, ok)
		}
		checkDate(t, s, w.date(s))
		checkTold(t, s.Reply.Fields, w.told(s.Reply))
		checkLifetime(t, s, w.lifetime(s))
		checkAge(t, s, now, w.age(s, now), w.lifetime(s))
	}
}

// Nothing but what the document names tells on an answer.
func TestOfOtherParts(t *testing.T) {
	w := newTeller()
	r := rand.New(rand.NewSource(171))
	for range 5000 {
		s, now := w.mixed(r)
		other := s
		other.Reply.Reason, other.Reply.Minor, other.Reply.Body = "Age: 5", 1, "Age: 6"
		other.Picks = []api.Pick{{Name: "Age", Has: true, Value: "7"}}
		other.Reply.Fields = slices.Concat(list("a", "max-age=5"), s.Reply.Fields, list("Warning", at(7), "ETag", "5"))
		before := copied(other)
		got := []any{Date(other), Lifetime(other), Told(other.Reply), Age(other, now), Fresh(other, now), Left(other, now)}
		want := []any{Date(s), Lifetime(s), Told(s.Reply), Age(s, now), Fresh(s, now), Left(s, now)}
		if !reflect.DeepEqual(got, want) {
			t.Fatalf("of %q: %v, and of %q: %v", []any{s}, want, []any{other}, got)
		}
		kept(t, other, before)
	}
}

// P17.4

// An age grows by a second each second from when the reply came on, up to the
// greatest one, and does not change before.
func TestAgeGrows(t *testing.T) {
	w := newTeller()
	r := rand.New(rand.NewSource(172))
	for range 20000 {
		s, _ := w.mixed(r)
		s.Time = within(s.Time, maxClock-1)
		now := s.Time + r.Intn(maxClock-s.Time)
		if r.Intn(2) == 0 {
			now = s.Time + min(within(Lifetime(s)-Age(s, s.Time), most)+r.Intn(3), maxClock-1-s.Time)
		}
		age, next := Age(s, now), Age(s, now+1)
		if next != min(age+1, most) {
			t.Fatalf("the age of %q is %d at %d and %d a second later", []any{s}, age, now, next)
		}
		if !Fresh(s, now) && Fresh(s, now+1) {
			t.Fatalf("%q becomes fresh after %d", []any{s}, now)
		}
		if Age(s, s.Time-r.Intn(1000)) != Age(s, s.Time) {
			t.Fatalf("the age of %q changes before it came", []any{s})
		}
	}
}

// What is left of a lifetime becomes less by a second each second: a reply is
// fresh so long, and never after.
func TestFreshEnds(t *testing.T) {
	w := newTeller()
	r := rand.New(rand.NewSource(173))
	for range 8000 {
		s, _ := w.mixed(r)
		s.Time = within(s.Time, maxClock-2*most)
		left := Left(s, s.Time)
		for _, passed := range []int{0, 1, r.Intn(1000), left / 2, left - 1, left, left + 1, left + r.Intn(1000), r.Intn(most), most, 2 * most} {
			if passed < 0 {
				continue
			}
			if is := Fresh(s, s.Time+passed); is != (passed < left) {
				t.Fatalf("%q with %d left is fresh after %d: %v", []any{s}, left, passed, is)
			}
			if n := Left(s, s.Time+passed); n != max(0, left-passed) {
				t.Fatalf("%q with %d left has %d after %d", []any{s}, left, n, passed)
			}
		}
	}
}

// A reply is fresh exactly if some of its lifetime is left, and one of the
// greatest age never is.
func TestFreshExactlyIfLeft(t *testing.T) {
	w := newTeller()
	r := rand.New(rand.NewSource(174))
	for range 10000 {
		s, now := w.mixed(r)
		if Fresh(s, now) != (Left(s, now) > 0) {
			t.Fatalf("%q at %d is fresh: %v, with %d left", []any{s}, now, Fresh(s, now), Left(s, now))
		}
		for _, old := range []string{"2147483648", "99999999999", "1, 3000000000"} {
			s.Reply.Fields = append(s.Reply.Fields, api.Field{Name: "Age", Value: old})
			if Age(s, now) != most || Fresh(s, now) || Left(s, now) != 0 {
				t.Fatalf("%q is %d old at %d, fresh: %v", []any{s}, Age(s, now), now, Fresh(s, now))
			}
		}
	}
}
