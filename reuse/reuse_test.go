package reuse

import (
	"maps"
	"math"
	"math/rand"
	"regexp"
	"slices"
	"strings"
	"testing"
	"time"

	"depot/api"
)

// The numbers that the document names, written out, so that a test does not
// lean on the constants that the package uses.
const (
	docUse   = 1
	docCheck = 2
	most     = 2147483648
	maxClock = 253402300799
	day      = 86400
	tagForm  = `^(W/)?"([!#-~]*)"$`
)

// none is what a message says of caching that says nothing.
var none = api.Control{MaxAge: -1, Shared: -1, MinFresh: -1}

// docUsual has the codes that the document of the layer below lists.
func docUsual() []int {
	return []int{200, 203, 204, 300, 301, 308, 404, 405, 410, 414, 501}
}

// docPassing has the names of the fields by which a request bypasses the cache.
func docPassing() []string {
	return []string{"Range", "If-Range", "If-Match", "If-Unmodified-Since"}
}

// at answers a time as a field tells it.
func at(t int) string {
	return time.Unix(int64(t), 0).UTC().Format("Mon, 02 Jan 2006 15:04:05 GMT")
}

// dates has values that tell times, with what they tell.
func dates() map[string]int {
	m := map[string]int{
		"Thursday, 01-Jan-70 00:16:40 GMT": 1000,
		"Thu Jan  1 00:15:00 1970":         900,
	}
	for _, t := range []int{0, 100, 900, 940, 999, 1000, 1001, 1060, 2000, day, 20 * day, most + 1000, 784111777, maxClock} {
		m[at(t)] = t
	}
	return m
}

// noDates has values that tell no time.
func noDates() []string {
	return []string{
		"", "0", "-1", "1000", "now", "Thu, 01 Jan 1970 00:16:40", "thu, 01 jan 1970 00:16:40 gmt",
		"Fri, 01 Jan 1970 00:16:40 GMT", " " + at(1000), at(1000) + " ", at(1000) + ", " + at(1000), `"` + at(1000) + `"`,
	}
}

// tags has values that are entity tags, with these.
func tags() map[string]api.Tag {
	return map[string]api.Tag{
		`"a"`:       {Text: "a"},
		`W/"a"`:     {Weak: true, Text: "a"},
		`""`:        {},
		`W/""`:      {Weak: true},
		`"a,b"`:     {Text: "a,b"},
		`"\"`:       {Text: `\`},
		`"W/"`:      {Text: "W/"},
		`W/"W/"`:    {Weak: true, Text: "W/"},
		`"*"`:       {Text: "*"},
		"\"\x80ÿ\"": {Text: "\x80ÿ"},
	}
}

// noTags has values that are none.
func noTags() []string {
	return []string{
		"", " ", `"`, "a", "*", "W/", "W/a", `W/"`, `W/"a`, `w/"a"`, `W/ "a"`, `W"a"`, `/"a"`, `"a`, `a"`, `"a" `, ` "a"`, "\"a\"\t",
		`"a" "b"`, `"a", "b"`, `"a","b"`, `"a",`, `"a"b"`, `"a b"`, "\"\x00\"", "\"\t\"", "\"\x1f\"", "\"\x7f\"", `W/W/"a"`, `WW/"a"`, `'a'`, `"\""`,
	}
}

// controls has values of Cache-Control, with what they say.
func controls() map[string]api.Control {
	says := func(change func(c *api.Control)) api.Control {
		c := none
		change(&c)
		return c
	}
	aged := func(n int) api.Control { return says(func(c *api.Control) { c.MaxAge = n }) }
	shared := func(n int) api.Control { return says(func(c *api.Control) { c.Shared = n }) }
	fresh := func(n int) api.Control { return says(func(c *api.Control) { c.MinFresh = n }) }
	private := says(func(c *api.Control) { c.Private = true })
	checked := says(func(c *api.Control) { c.MustCheck = true })
	public := says(func(c *api.Control) { c.Public = true })
	noStore := says(func(c *api.Control) { c.NoStore = true })
	noCache := says(func(c *api.Control) { c.NoCache = true })
	return map[string]api.Control{
		"": none, " , ": none, "max-stale=9, no-transform": none, "x-no-store, no-stores, no_cache": none, `x="no-store, private"`: none,
		"no-store": noStore, "No-Store=1": noStore, "no-cache": noCache, `NO-CACHE="a, b"`: noCache,
		"private": private, `Private="x"`: private, "public": public, "PUBLIC=no": public, "must-revalidate": checked, "proxy-revalidate": checked,
		"only-if-cached": says(func(c *api.Control) { c.OnlyIf = true }),
		"max-age=0":      aged(0), "max-age=1": aged(1), "max-age=60": aged(60), `Max-Age="61"`: aged(61), "max-age=100": aged(100), "max-age=x": aged(0),
		"max-age": aged(0), "max-age=-1": aged(0), "max-age=2147483647": aged(most - 1), "max-age=99999999999": aged(most), "max-age=60, max-age=9": aged(9),
		"s-maxage=0": shared(0), "s-maxage=1": shared(1), "s-maxage=60": shared(60), "S-MaxAge=y": shared(0), "s-maxage=3000000000": shared(most),
		"min-fresh=0": fresh(0), "min-fresh=20": fresh(20), "min-fresh=60": fresh(60), "min-fresh": fresh(most), "min-fresh=x": fresh(most), "min-fresh=9, Min-Fresh=20": fresh(20),
		`"`: {NoStore: true, NoCache: true, MaxAge: -1, Shared: -1, MinFresh: -1}, `max-age=60, "`: {NoStore: true, NoCache: true, MaxAge: -1, Shared: -1, MinFresh: -1},
		"max-age=60, s-maxage=0":             {MaxAge: 60, Shared: 0, MinFresh: -1},
		"max-age=0, s-maxage=60":             {MaxAge: 0, Shared: 60, MinFresh: -1},
		"max-age=30, min-fresh=30":           {MaxAge: 30, Shared: -1, MinFresh: 30},
		"public, max-age=60, no-cache":       {Public: true, NoCache: true, MaxAge: 60, Shared: -1, MinFresh: -1},
		"must-revalidate, s-maxage=60":       {MustCheck: true, MaxAge: -1, Shared: 60, MinFresh: -1},
		"private, no-store, public, x=1,y":   {Private: true, NoStore: true, Public: true, MaxAge: -1, Shared: -1, MinFresh: -1},
		"max-age=60,, proxy-revalidate=\"\"": {MustCheck: true, MaxAge: 60, Shared: -1, MinFresh: -1},
	}
}

// pragmas has values of Pragma, with whether they have the item no-cache.
func pragmas() map[string]bool {
	return map[string]bool{
		"no-cache": true, "x, No-Cache": true, ",no-cache ,\"\"": true, "": false, "no-cache=1": false, "no-store": false, `"no-cache"`: false, `no-cache, "`: false,
	}
}

// varies has values of Vary, with whether they name fields alone.
func varies() map[string]bool {
	return map[string]bool{
		"": true, "a": true, "Accept-Encoding, b": true, ", ,": true, "a, A": true, "**": true,
		"*": false, "a, *": false, "*,a": false, "a b": false, `"a"`: false, `"`: false, "a, é": false,
	}
}

// ages has values of Age, with the greatest number that each of them tells.
func ages() map[string]int {
	return map[string]int{"": 0, "0": 0, "1": 1, "50": 50, "3, 59": 59, "60": 60, "x": 0, "x, 61": 61, "2147483647": most - 1, "99999999999": most, `9, "`: 0}
}

// lower makes the letters A to Z of a text small, and no others.
func lower(s string) string {
	b := []byte(s)
	for i, c := range b {
		if c >= 65 && c <= 90 {
			b[i] = c + 32
		}
	}
	return string(b)
}

// valuesOf answers the values of all fields of a name.
func valuesOf(l []api.Field, name string) []string {
	var all []string
	for _, f := range l {
		if lower(f.Name) == lower(name) {
			all = append(all, f.Value)
		}
	}
	return all
}

func hasField(l []api.Field, name string) bool {
	return len(valuesOf(l, name)) > 0
}

// teller answers by the words of the document what the package is to answer of
// fields whose values are of those above.
type teller struct {
	dates    map[string]int
	tags     map[string]api.Tag
	controls map[string]api.Control
	pragmas  map[string]bool
	varies   map[string]bool
	ages     map[string]int
	values   map[string][]string // of each field that counts
	asked    []string            // the names of those of a request
	said     []string            // and of those of a reply
	far      []int
}

// keys answers the keys of a map, sorted.
func keys[V any](m map[string]V) []string {
	return slices.Sorted(maps.Keys(m))
}

func newTeller() teller {
	w := teller{dates: dates(), tags: tags(), controls: controls(), pragmas: pragmas(), varies: varies(), ages: ages(), far: far()}
	times := append(keys(w.dates), noDates()...)
	w.values = map[string][]string{
		"Date": times, "Expires": times, "Last-Modified": times, "ETag": append(keys(w.tags), noTags()...),
		"Cache-Control": keys(w.controls), "Age": keys(w.ages), "Pragma": keys(w.pragmas), "Vary": keys(w.varies), "Authorization": {"", "Basic x"},
	}
	for _, name := range docPassing() {
		w.values[name] = []string{"", "bytes=0-1", `"a"`, at(900)}
	}
	w.asked = append(docPassing(), "Cache-Control", "Cache-Control", "Cache-Control", "Cache-Control", "Pragma", "Pragma", "Authorization", "Authorization")
	w.said = []string{"Date", "Expires", "Last-Modified", "ETag", "Cache-Control", "Cache-Control", "Cache-Control", "Age", "Vary"}
	return w
}

// within answers the number of a range that is the nearest to another one.
func within(n, last int) int {
	return max(0, min(n, last))
}

// gap answers the difference of two times.
func gap(later, earlier int) int {
	return within(within(later, maxClock)-within(earlier, maxClock), most)
}

func (w teller) when(l []api.Field, name string) (int, bool) {
	all := valuesOf(l, name)
	if len(all) != 1 {
		return 0, false
	}
	t, ok := w.dates[all[0]]
	return t, ok
}

// control answers what all values of Cache-Control say.
func (w teller) control(l []api.Field) api.Control {
	all := none
	for _, value := range valuesOf(l, "Cache-Control") {
		c := w.controls[value]
		all.NoStore, all.NoCache, all.Private = all.NoStore || c.NoStore, all.NoCache || c.NoCache, all.Private || c.Private
		all.Public, all.MustCheck, all.OnlyIf = all.Public || c.Public, all.MustCheck || c.MustCheck, all.OnlyIf || c.OnlyIf
		if all.MaxAge < 0 || c.MaxAge >= 0 && c.MaxAge < all.MaxAge {
			all.MaxAge = c.MaxAge
		}
		if all.Shared < 0 || c.Shared >= 0 && c.Shared < all.Shared {
			all.Shared = c.Shared
		}
		all.MinFresh = max(all.MinFresh, c.MinFresh)
	}
	return all
}

func (w teller) askedOf(q api.Request) api.Control {
	c := w.control(q.Fields)
	for _, value := range valuesOf(q.Fields, "Pragma") {
		c.NoCache = c.NoCache || w.pragmas[value] && !hasField(q.Fields, "Cache-Control")
	}
	return c
}

func (w teller) date(s api.Stored) int {
	if t, ok := w.when(s.Reply.Fields, "Date"); ok {
		return t
	}
	return s.Time
}

func (w teller) lifetime(s api.Stored) int {
	c, date := w.control(s.Reply.Fields), w.date(s)
	end, ends := w.when(s.Reply.Fields, "Expires")
	changed, ok := w.when(s.Reply.Fields, "Last-Modified")
	switch {
	case c.Shared >= 0:
		return c.Shared
	case c.MaxAge >= 0:
		return c.MaxAge
	case ends:
		return gap(end, date)
	case hasField(s.Reply.Fields, "Expires") || !ok || !slices.Contains(docUsual(), s.Reply.Code) || changed > date:
		return 0
	}
	return min(gap(date, changed)/10, day)
}

func (w teller) age(s api.Stored, now int) int {
	came := gap(s.Time, w.date(s))
	for _, value := range valuesOf(s.Reply.Fields, "Age") {
		came = max(came, w.ages[value])
	}
	return within(came+gap(now, s.Time), most)
}

func (w teller) tag(r api.Reply) (api.Tag, bool) {
	all := valuesOf(r.Fields, "ETag")
	if len(all) != 1 {
		return api.Tag{}, false
	}
	tag, ok := w.tags[all[0]]
	return tag, ok
}

func (w teller) validator(r api.Reply) bool {
	_, tagged := w.tag(r)
	_, dated := w.when(r.Fields, "Last-Modified")
	return tagged || dated
}

func (w teller) passes(q api.Request) bool {
	return slices.ContainsFunc(docPassing(), func(name string) bool { return hasField(q.Fields, name) })
}

func (w teller) storable(q api.Request, r api.Reply, now int) bool {
	if q.Method != "GET" || w.passes(q) {
		return false
	}
	if w.askedOf(q).NoStore {
		return false
	}
	said := w.control(r.Fields)
	if said.NoStore || said.Private {
		return false
	}
	if hasField(q.Fields, "Authorization") && !said.Public && !said.MustCheck && said.Shared < 0 {
		return false
	}
	if r.Code == 206 || r.Code == 304 {
		return false
	}
	for _, value := range valuesOf(r.Fields, "Vary") {
		if !w.varies[value] {
			return false
		}
	}
	if said.Shared < 0 && said.MaxAge < 0 && !said.Public && !hasField(r.Fields, "Expires") && !slices.Contains(docUsual(), r.Code) {
		return false
	}
	s := api.Stored{Reply: r, Time: now}
	return w.validator(r) || w.lifetime(s) > w.age(s, now)
}

func (w teller) verdict(q api.Request, s api.Stored, now int) int {
	asked, lifetime, age := w.askedOf(q), w.lifetime(s), w.age(s, now)
	switch {
	case lifetime <= age, w.control(s.Reply.Fields).NoCache, asked.NoCache:
		return docCheck
	case asked.MaxAge >= 0 && asked.MaxAge < age, asked.MinFresh >= 0 && asked.MinFresh > lifetime-age:
		return docCheck
	}
	return docUse
}

// list makes fields of names and values that take turns.
func list(texts ...string) []api.Field {
	var l []api.Field
	for i := 0; i+1 < len(texts); i += 2 {
		l = append(l, api.Field{Name: texts[i], Value: texts[i+1]})
	}
	return l
}

// asking answers a request by GET with some fields.
func asking(texts ...string) api.Request {
	return api.Request{Method: "GET", Target: "/", Minor: 1, Fields: list(texts...)}
}

// saying answers a reply with some fields.
func saying(code int, texts ...string) api.Reply {
	return api.Reply{Code: code, Minor: 1, Fields: list(texts...)}
}

// stored answers a reply of code 200 that came at some time.
func stored(came int, texts ...string) api.Stored {
	return api.Stored{Reply: saying(200, texts...), Time: came}
}

// far are integers far from those that a time has.
func far() []int {
	l := []int{math.MinInt, math.MinInt + 1, -maxClock, -most, -1, maxClock + 1, maxClock + most, math.MaxInt - 1, math.MaxInt}
	for i := 38; i < 63; i++ {
		l = append(l, 1<<i, 1<<i-1, -1<<i)
	}
	return l
}

// some answers any text of a list.
func some(r *rand.Rand, l ...string) string {
	return l[r.Intn(len(l))]
}

// fieldsOf answers fields of any of some names, in any case.
func (w teller) fieldsOf(r *rand.Rand, n int, names []string) []api.Field {
	var l []api.Field
	for range n {
		name := some(r, names...)
		value := some(r, w.values[name]...)
		l = append(l, api.Field{Name: some(r, name, name, lower(name), strings.ToUpper(name), "X-"+name), Value: value})
	}
	return l
}

// mixed answers a request and a stored reply of any kind, and a time at which
// it is asked of.
func (w teller) mixed(r *rand.Rand) (api.Request, api.Stored, int) {
	q := api.Request{Method: "GET", Fields: w.fieldsOf(r, r.Intn(3), w.asked)}
	if r.Intn(16) == 0 {
		q.Method = some(r, "HEAD", "get", "", "POST", "GET ")
	}
	s := api.Stored{Reply: api.Reply{Code: 200, Fields: w.fieldsOf(r, r.Intn(6), w.said)}, Time: 990 + r.Intn(20)}
	if r.Intn(4) == 0 {
		s.Reply.Code = []int{201, 204, 206, 302, 304, 404, 500, 501, 0, -200}[r.Intn(10)]
	}
	if r.Intn(16) == 0 {
		s.Time = w.far[r.Intn(len(w.far))]
	}
	switch r.Intn(8) {
	case 0:
		return q, s, r.Intn(maxClock)
	case 1:
		return q, s, w.far[r.Intn(len(w.far))]
	}
	return q, s, s.Time - 10 + r.Intn(80)
}

func (w teller) checkTag(t *testing.T, r api.Reply) {
	t.Helper()
	want, ok := w.tag(r)
	checkTag(t, r, want, ok)
}

func checkTag(t *testing.T, r api.Reply, want api.Tag, ok bool) {
	t.Helper()
	before := slices.Clone(r.Fields)
	if tag, is := Tag(r); tag != want || is != ok {
		t.Fatalf("Tag(%.300q) is %q, %v, want %q, %v", r.Fields, []any{tag}, is, []any{want}, ok)
	}
	kept(t, r.Fields, before)
}

// kept fails if fields are not what they were.
func kept(t *testing.T, l, before []api.Field) {
	t.Helper()
	if !slices.Equal(l, before) {
		t.Fatalf("%.300q have become %.300q", before, l)
	}
}

func checkValidator(t *testing.T, want bool, texts ...string) {
	t.Helper()
	r := saying(200, texts...)
	before := slices.Clone(r.Fields)
	if is := Validator(r); is != want {
		t.Fatalf("Validator(%.300q) is %v", r.Fields, is)
	}
	kept(t, r.Fields, before)
}

func checkPasses(t *testing.T, want bool, texts ...string) {
	t.Helper()
	for _, method := range []string{"GET", "HEAD", "PUT", ""} {
		q := asking(texts...)
		q.Method = method
		before := slices.Clone(q.Fields)
		if is := Passes(q); is != want {
			t.Fatalf("Passes(%s, %.300q) is %v", method, q.Fields, is)
		}
		kept(t, q.Fields, before)
	}
}

func checkStorable(t *testing.T, q api.Request, r api.Reply, now int, want bool) {
	t.Helper()
	asked, said := slices.Clone(q.Fields), slices.Clone(r.Fields)
	if is := Storable(q, r, now); is != want {
		t.Fatalf("Storable(%q %.300q, %d %.300q, %d) is %v", q.Method, q.Fields, r.Code, r.Fields, now, is)
	}
	kept(t, q.Fields, asked)
	kept(t, r.Fields, said)
}

func checkVerdict(t *testing.T, q api.Request, s api.Stored, now, want int) {
	t.Helper()
	asked, said, picks := slices.Clone(q.Fields), slices.Clone(s.Reply.Fields), slices.Clone(s.Picks)
	if n := Verdict(q, s, now); n != want {
		t.Fatalf("Verdict(%.300q, %d %.300q of %d, %d) is %d", q.Fields, s.Reply.Code, s.Reply.Fields, s.Time, now, n)
	}
	kept(t, q.Fields, asked)
	kept(t, s.Reply.Fields, said)
	if !slices.Equal(s.Picks, picks) {
		t.Fatalf("%q have become %q", []any{picks}, []any{s.Picks})
	}
}

func TestConstants(t *testing.T) {
	if Use != docUse || Check != docCheck {
		t.Errorf("Use is %d and Check is %d", Use, Check)
	}
}

// P18.1: Tag

func TestTag(t *testing.T) {
	for value, want := range tags() {
		checkTag(t, saying(200, "ETag", value), want, true)
		checkTag(t, saying(304, "a", "1", "etag", value, "b", "2"), want, true)
		checkTag(t, saying(0, "X-ETag", `"x"`, "ETAG", value, "If-None-Match", `"y"`), want, true)
	}
	for _, value := range noTags() {
		checkTag(t, saying(200, "ETag", value), api.Tag{}, false)
		checkTag(t, saying(200, "E-Tag", `"x"`, "etag", value, "Tag", `"y"`), api.Tag{}, false)
	}
}

func TestTagOfNone(t *testing.T) {
	checkTag(t, api.Reply{}, api.Tag{}, false)
	checkTag(t, api.Reply{Fields: []api.Field{}, Reason: `"a"`, Body: `ETag: "a"`}, api.Tag{}, false)
	for _, name := range []string{"", "ETa", "ETags", "E-Tag", "ETag ", " ETag", "X-ETag", "Tag", "If-None-Match", "ETag\x00", "ÉTag"} {
		checkTag(t, saying(200, name, `"a"`), api.Tag{}, false)
		checkTag(t, saying(200, name, `"a"`, "ETag", `"b"`, name, `"c"`), api.Tag{Text: "b"}, true)
	}
}

// Of several values none is the only one, even if they are the same, or if only
// one of them is a tag.
func TestTagOfSeveral(t *testing.T) {
	for value := range tags() {
		checkTag(t, saying(200, "ETag", value, "ETag", value), api.Tag{}, false)
		checkTag(t, saying(200, "ETag", value, "a", "1", "ETAG", value, "etag", value), api.Tag{}, false)
		for _, other := range append(noTags(), `"b"`) {
			checkTag(t, saying(200, "ETag", value, "etag", other), api.Tag{}, false)
			checkTag(t, saying(200, "etag", other, "ETag", value), api.Tag{}, false)
		}
	}
	// Joined as fields are, these are a tag.
	checkTag(t, saying(200, "ETag", `"a`, "ETag", `b"`), api.Tag{}, false)
}

func TestTagOfEachByte(t *testing.T) {
	for c := range 256 {
		b := string([]byte{byte(c)})
		ok := c == 33 || c >= 35 && c <= 126 || c >= 128
		for _, row := range []struct{ ahead, text, behind string }{{"", b, ""}, {"", "a" + b, ""}, {"W/", b + "a", ""}} {
			want := api.Tag{}
			if ok {
				want = api.Tag{Weak: row.ahead != "", Text: row.text}
			}
			checkTag(t, saying(200, "ETag", row.ahead+`"`+row.text+`"`), want, ok)
		}
		checkTag(t, saying(200, "ETag", b+`"a"`), api.Tag{}, false)
		checkTag(t, saying(200, "ETag", `"a"`+b), api.Tag{}, false)
	}
}

// words answers all texts of some parts, up to a number of them.
func words(most int, parts ...string) []string {
	all := []string{""}
	for from := 0; most > 0; most-- {
		end := len(all)
		for _, word := range all[from:end] {
			for _, part := range parts {
				all = append(all, word+part)
			}
		}
		from = end
	}
	return all
}

func TestTagOfShortWords(t *testing.T) {
	form := regexp.MustCompile(tagForm)
	for _, word := range words(5, `"`, "W", "/", "a", " ", ",") {
		var want api.Tag
		parts := form.FindStringSubmatch(word)
		if parts != nil {
			want = api.Tag{Weak: parts[1] != "", Text: parts[2]}
		}
		checkTag(t, saying(200, "ETag", word), want, parts != nil)
	}
}

// P18.1: Validator

func TestValidator(t *testing.T) {
	checkValidator(t, false)
	checkValidator(t, false, "Date", at(900), "Expires", at(900), "X-ETag", `"a"`, "If-Modified-Since", at(900), "Modified", at(900))
	for value := range tags() {
		checkValidator(t, true, "ETag", value)
		checkValidator(t, true, "eTag", value, "Last-Modified", at(900))
		checkValidator(t, false, "ETag", value, "ETag", value)
		checkValidator(t, true, "ETag", value, "Last-Modified", at(900), "ETag", value)
		for _, other := range noDates() {
			checkValidator(t, true, "Last-Modified", other, "ETAG", value)
		}
		checkValidator(t, true, "Last-Modified", at(900), "ETag", value, "Last-Modified", at(900))
	}
	for value := range dates() {
		checkValidator(t, true, "Last-Modified", value)
		checkValidator(t, true, "a", "1", "LAST-modified", value, "b", "2")
		checkValidator(t, false, "Last-Modified", value, "Last-Modified", value)
		for _, other := range noTags() {
			checkValidator(t, true, "ETag", other, "last-modified", value)
			checkValidator(t, false, "ETag", other, "Last-Modified", value, "last-modified", value)
		}
	}
	for i, tag := range noTags() {
		date := noDates()[i%len(noDates())]
		checkValidator(t, false, "ETag", tag)
		checkValidator(t, false, "Last-Modified", date)
		checkValidator(t, false, "Last-Modified", date, "ETag", tag)
		checkValidator(t, false, "ETag", at(900), "Last-Modified", `"a"`)
	}
}

// P18.2: Passes

func TestPasses(t *testing.T) {
	checkPasses(t, false)
	checkPasses(t, false, "Host", "a", "If-None-Match", `"a"`, "If-Modified-Since", at(900), "Authorization", "x", "Cache-Control", "no-store, no-cache", "Pragma", "no-cache")
	checkPasses(t, false, "Accept-Ranges", "bytes", "Content-Range", "bytes 0-1/2", "Ranges", "1", "If", "2", "If-Unmodified", "3", "", "Range")
	for _, name := range docPassing() {
		for _, value := range []string{"", "x", "bytes=0-1", `"a"`, "*", at(900), "\x00"} {
			for _, other := range []string{name, lower(name), strings.ToUpper(name)} {
				checkPasses(t, true, other, value)
				checkPasses(t, true, "a", "1", other, value, "If-None-Match", "2")
				checkPasses(t, true, other, value, other, value)
			}
			for _, second := range docPassing() {
				checkPasses(t, true, name, value, second, value)
			}
		}
	}
}

// beside answers all texts that are one byte away from another one.
func beside(s string) []string {
	var l []string
	for i := range len(s) + 1 {
		for c := range 256 {
			b := string([]byte{byte(c)})
			l = append(l, s[:i]+b+s[i:])
			if i < len(s) {
				l = append(l, s[:i]+b+s[i+1:])
			}
		}
		if i < len(s) {
			l = append(l, s[:i]+s[i+1:])
		}
	}
	return l
}

// passingName tells whether a field of a name makes a request bypass.
func passingName(name string) bool {
	return slices.ContainsFunc(docPassing(), func(other string) bool { return lower(other) == lower(name) })
}

func TestPassesOfNamesBeside(t *testing.T) {
	for _, name := range docPassing() {
		for _, other := range beside(name) {
			if is := Passes(asking(other, "x")); is != passingName(other) {
				t.Fatalf("Passes of a field %q is %v", other, is)
			}
		}
	}
}

// P18.3: Storable

func TestStorable(t *testing.T) {
	get, authorized := asking(), asking("authorization", "Basic x")
	for _, row := range []struct {
		q    api.Request
		r    api.Reply
		want bool
	}{
		{get, saying(200, "Cache-Control", "max-age=60"), true},
		{get, saying(200, "Cache-Control", "max-age=60, no-store"), false},
		{get, saying(200, "Cache-Control", "max-age=60, no-cache", "ETag", `"a"`), true},
		{get, saying(200, "Cache-Control", "max-age=60, no-cache"), true},
		{get, saying(200, "Cache-Control", "no-cache"), false},
		{get, saying(200, "Cache-Control", "no-cache", "ETag", `"a"`), true},
		{get, saying(200, "Cache-Control", "max-age=60", "cache-control", "Private"), false},
		{get, saying(200, "Cache-Control", "private", "ETag", `"a"`), false},
		{get, saying(200, "Cache-Control", "max-age=60", "Cache-Control", `"`), false},
		{get, saying(200, "Pragma", "no-cache, no-store, private", "Cache-Control", "max-age=60"), true},
		{get, saying(200), false},
		{get, saying(200, "ETag", `"a"`), true},
		{get, saying(200, "ETag", "a"), false},
		{get, saying(200, "Last-Modified", at(900)), true},
		{get, saying(200, "Last-Modified", at(1000)), true},
		{get, saying(200, "Last-Modified", at(2000)), true},
		{get, saying(200, "Last-Modified", "x"), false},
		{get, saying(302, "ETag", `"a"`), false},
		{get, saying(302, "ETag", `"a"`, "Last-Modified", at(900)), false},
		{get, saying(302, "ETag", `"a"`, "Cache-Control", "public"), true},
		{get, saying(302, "Cache-Control", "public"), false},
		{get, saying(302, "ETag", `"a"`, "Cache-Control", "max-age=0"), true},
		{get, saying(302, "ETag", `"a"`, "Cache-Control", "s-maxage=x"), true},
		{get, saying(302, "ETag", `"a"`, "Cache-Control", "min-fresh=9"), false},
		{get, saying(302, "ETag", `"a"`, "Cache-Control", "must-revalidate"), false},
		{get, saying(302, "ETag", `"a"`, "Expires", "0"), true},
		{get, saying(302, "ETag", `"a"`, "expires", at(1060)), true},
		{get, saying(302, "Expires", at(1060)), true},
		{get, saying(302, "Expires", at(1001)), true},
		{get, saying(302, "Expires", at(1000)), false},
		{get, saying(302, "Expires", at(999)), false},
		{get, saying(302, "Expires", "0"), false},
		{get, saying(302, "Expires", at(1060), "Expires", at(1060)), false},
		{get, saying(302, "Cache-Control", "s-maxage=60"), true},
		{get, saying(302, "Cache-Control", "max-age=60, s-maxage=0"), false},
		{get, saying(302, "Cache-Control", "max-age=0, s-maxage=60"), true},
		{get, saying(200, "Cache-Control", "max-age=1"), true},
		{get, saying(200, "Cache-Control", "max-age=0"), false},
		{get, saying(200, "Cache-Control", "max-age=60", "Age", "59"), true},
		{get, saying(200, "Cache-Control", "max-age=60", "Age", "60"), false},
		{get, saying(200, "Cache-Control", "max-age=60", "Age", "60", "ETag", `""`), true},
		{get, saying(200, "Cache-Control", "max-age=60", "Date", at(941)), true},
		{get, saying(200, "Cache-Control", "max-age=60", "Date", at(940)), false},
		{get, saying(200, "Cache-Control", "max-age=60", "Date", at(2000)), true},
		{get, saying(200, "Date", at(940), "Expires", at(1000)), false},
		{get, saying(200, "Date", at(940), "Expires", at(1060)), true},
		{get, saying(200, "Cache-Control", "max-age=60", "Vary", "a, b"), true},
		{get, saying(200, "Cache-Control", "max-age=60", "Vary", "*"), false},
		{get, saying(200, "Cache-Control", "max-age=60", "Vary", "a", "vary", "b c"), false},
		{get, saying(200, "ETag", `"a"`, "Vary", "*"), false},
		{authorized, saying(200, "Cache-Control", "max-age=60"), false},
		{authorized, saying(200, "ETag", `"a"`), false},
		{authorized, saying(200, "ETag", `"a"`, "Expires", at(1060)), false},
		{authorized, saying(200, "Cache-Control", "max-age=60, public"), true},
		{authorized, saying(200, "Cache-Control", "max-age=60, must-revalidate"), true},
		{authorized, saying(200, "Cache-Control", "max-age=60, proxy-revalidate"), true},
		{authorized, saying(200, "Cache-Control", "s-maxage=60"), true},
		{authorized, saying(200, "Cache-Control", "s-maxage=0", "ETag", `"a"`), true},
		{authorized, saying(200, "Cache-Control", "s-maxage=0"), false},
		{authorized, saying(200, "Cache-Control", "public, private, max-age=60"), false},
		{asking("Authorization", ""), saying(200, "Cache-Control", "max-age=60"), false},
		{asking("X-Authorization", "x", "Proxy-Authorization", "x", "Cookie", "x"), saying(200, "Cache-Control", "max-age=60"), true},
		{asking("Range", "bytes=0-1"), saying(200, "Cache-Control", "max-age=60"), false},
		{asking("If-None-Match", `"a"`, "If-Modified-Since", at(900)), saying(200, "Cache-Control", "max-age=60"), true},
		{asking("Cache-Control", "no-store"), saying(200, "Cache-Control", "max-age=60"), false},
		{asking("Cache-Control", `"`), saying(200, "Cache-Control", "max-age=60"), false},
		{asking("Cache-Control", "no-cache, max-age=0, private, min-fresh=99, only-if-cached"), saying(200, "Cache-Control", "max-age=60"), true},
		{asking("Pragma", "no-cache, no-store"), saying(200, "Cache-Control", "max-age=60"), true},
		{asking("Cache-Control", "public, s-maxage=9", "Authorization", "x"), saying(200, "Cache-Control", "max-age=60"), false},
		{asking("Vary", "*", "ETag", `"a"`), saying(200), false},
	} {
		checkStorable(t, row.q, row.r, 1000, row.want)
	}
}

// Only the replies to GET are stored, and methods are told by their case.
func TestStorableOfMethods(t *testing.T) {
	methods := append(beside("GET"), "", "HEAD", "POST", "PUT", "DELETE", "OPTIONS", "TRACE", "PATCH", "CONNECT", "get", "Get", "GET")
	for _, method := range methods {
		q := asking()
		q.Method = method
		checkStorable(t, q, saying(200, "Cache-Control", "max-age=60", "ETag", `"a"`), 1000, method == "GET")
	}
}

func TestStorableOfCodes(t *testing.T) {
	for _, code := range append(far(), numbers(-300, 1100)...) {
		whole, usual := code != 206 && code != 304, slices.Contains(docUsual(), code)
		for _, said := range []string{"public", "max-age=60", "s-maxage=60", "max-age=0"} {
			checkStorable(t, asking(), saying(code, "Cache-Control", said, "ETag", `"a"`), 1000, whole)
		}
		checkStorable(t, asking(), saying(code, "Expires", at(1060)), 1000, whole)
		checkStorable(t, asking(), saying(code, "Expires", "x", "Last-Modified", at(900)), 1000, whole)
		checkStorable(t, asking(), saying(code, "Last-Modified", at(900)), 1000, usual)
		checkStorable(t, asking(), saying(code, "ETag", `"a"`), 1000, usual)
		checkStorable(t, asking(), saying(code), 1000, false)
	}
}

// numbers answers the integers from one to another.
func numbers(first, last int) []int {
	var l []int
	for n := first; n <= last; n++ {
		l = append(l, n)
	}
	return l
}

// Whatever a request bypasses the cache by, and whatever it says of caching.
func TestStorableOfRequests(t *testing.T) {
	w := newTeller()
	fresh, checked := saying(200, "Cache-Control", "max-age=60"), saying(404, "ETag", `W/""`, "Cache-Control", "no-cache")
	for _, name := range w.asked {
		for _, value := range w.values[name] {
			for _, other := range []string{name, lower(name), strings.ToUpper(name)} {
				want := name == "Pragma" || name == "Cache-Control" && !w.controls[value].NoStore
				checkStorable(t, asking("a", "1", other, value), fresh, 1000, want)
				checkStorable(t, asking(other, value, "b", "2"), checked, 1000, want)
			}
		}
	}
}

// Whatever a reply says of caching, of what it varies by, and of validators.
func TestStorableOfReplies(t *testing.T) {
	w := newTeller()
	for value, c := range w.controls {
		allowed := !c.NoStore && !c.Private
		open := c.Public || c.MustCheck || c.Shared >= 0
		lasts := c.Shared > 0 || c.Shared < 0 && c.MaxAge > 0
		checkStorable(t, asking(), saying(200, "Cache-Control", value), 1000, allowed && lasts)
		checkStorable(t, asking(), saying(200, "Cache-Control", value, "ETag", `"a"`), 1000, allowed)
		checkStorable(t, asking(), saying(500, "Cache-Control", value, "ETag", `"a"`), 1000, allowed && (c.Public || c.Shared >= 0 || c.MaxAge >= 0))
		checkStorable(t, asking("AUTHORIZATION", "x"), saying(200, "Cache-Control", value, "ETag", `"a"`), 1000, allowed && open)
		checkStorable(t, asking("Authorization", ""), saying(200, "Cache-Control", value), 1000, allowed && open && lasts)
	}
	for value, names := range w.varies {
		checkStorable(t, asking(), saying(200, "Vary", value, "Cache-Control", "max-age=60"), 1000, names)
		checkStorable(t, asking(), saying(200, "ETag", `"a"`, "VARY", value), 1000, names)
		for other, too := range w.varies {
			checkStorable(t, asking("a", "1"), saying(200, "Vary", value, "ETag", `"a"`, "vary", other), 1000, names && too)
		}
	}
	for _, tag := range w.values["ETag"] {
		for _, date := range w.values["Last-Modified"] {
			r := saying(500, "ETag", tag, "Last-Modified", date, "Cache-Control", "max-age=0")
			checkStorable(t, asking(), r, 1000, w.validator(r))
		}
	}
}

// A reply is held fresh as one that came now, whenever that is.
func TestStorableOfTimes(t *testing.T) {
	for _, now := range append(far(), 0, 1, 999, 1000, maxClock-1, maxClock) {
		clock := within(now, maxClock)
		checkStorable(t, asking(), saying(200, "Cache-Control", "max-age=1"), now, true)
		checkStorable(t, asking(), saying(200, "Cache-Control", "max-age=0"), now, false)
		checkStorable(t, asking(), saying(200, "Expires", at(1000)), now, clock < 1000)
		checkStorable(t, asking(), saying(200, "Cache-Control", "max-age=60", "Date", at(1000)), now, clock < 1060)
		checkStorable(t, asking(), saying(200, "Cache-Control", "max-age=60", "Date", at(1000), "ETag", `"a"`), now, true)
		checkStorable(t, asking(), saying(200, "Cache-Control", "max-age=99999999999", "Date", at(0)), now, clock < most)
	}
	for now := 900; now <= 1100; now++ {
		checkStorable(t, asking(), saying(200, "Expires", at(1000)), now, now < 1000)
		checkStorable(t, asking(), saying(200, "Cache-Control", "max-age=60", "Date", at(1000)), now, now < 1060)
		checkStorable(t, asking(), saying(200, "Cache-Control", "max-age=60", "Age", "20", "Date", at(1000)), now, now < 1060)
	}
}

// shortLists answers all lists of up to a number of some fields.
func shortLists(most int, l []api.Field) [][]api.Field {
	all := [][]api.Field{nil}
	for from := 0; most > 0; most-- {
		end := len(all)
		for _, shorter := range all[from:end] {
			for _, f := range l {
				all = append(all, append(slices.Clone(shorter), f))
			}
		}
		from = end
	}
	return all
}

func TestStorableOfShortLists(t *testing.T) {
	w := newTeller()
	requests := shortLists(1, list("Authorization", "x", "Range", "x", "Cache-Control", "no-store", "Pragma", "no-cache"))
	replies := shortLists(2, list(
		"Cache-Control", "no-store", "Cache-Control", "private", "Cache-Control", "public", "Cache-Control", "must-revalidate", "Cache-Control", "no-cache",
		"Cache-Control", "max-age=60", "Cache-Control", "max-age=0", "Cache-Control", "s-maxage=60", "Cache-Control", "s-maxage=0", "ETag", `"a"`, "ETag", "a",
		"Last-Modified", at(900), "Last-Modified", "x", "Expires", at(1060), "Expires", "0", "Vary", "a", "Vary", "*", "Age", "60", "Date", at(940)))
	for _, asked := range requests {
		for _, said := range replies {
			for _, code := range []int{200, 206, 304, 302} {
				q, r := api.Request{Method: "GET", Fields: asked}, api.Reply{Code: code, Fields: said}
				checkStorable(t, q, r, 1000, w.storable(q, r, 1000))
			}
		}
	}
}

// P18.4: Verdict

func TestVerdict(t *testing.T) {
	s := stored(100, "Cache-Control", "max-age=60")
	aged := stored(100, "Cache-Control", "max-age=60", "Age", "20")
	longest := stored(0, "Cache-Control", "max-age=2147483648")
	for _, row := range []struct {
		q         api.Request
		s         api.Stored
		now, want int
	}{
		{asking(), s, 100, docUse}, {asking(), s, 99, docUse}, {asking(), s, 159, docUse}, {asking(), s, 160, docCheck}, {asking(), s, 161, docCheck},
		{asking(), aged, 139, docUse}, {asking(), aged, 140, docCheck},
		{asking("Cache-Control", "max-age=10"), s, 109, docUse}, {asking("Cache-Control", "max-age=10"), s, 110, docUse}, {asking("Cache-Control", "max-age=10"), s, 111, docCheck},
		{asking("Cache-Control", "max-age=10"), aged, 100, docCheck}, {asking("Cache-Control", "max-age=20"), aged, 100, docUse}, {asking("Cache-Control", "max-age=20"), aged, 101, docCheck},
		{asking("Cache-Control", "max-age=0"), s, 100, docUse}, {asking("Cache-Control", "max-age=0"), s, 101, docCheck}, {asking("Cache-Control", "max-age"), s, 101, docCheck},
		{asking("Cache-Control", "max-age=100"), s, 159, docUse}, {asking("Cache-Control", "max-age=100"), s, 160, docCheck},
		{asking("Cache-Control", "min-fresh=20"), s, 140, docUse}, {asking("Cache-Control", "min-fresh=20"), s, 141, docCheck}, {asking("Cache-Control", "min-fresh=20"), s, 139, docUse},
		{asking("Cache-Control", "min-fresh=0"), s, 159, docUse}, {asking("Cache-Control", "min-fresh=0"), s, 160, docCheck}, {asking("Cache-Control", "min-fresh=1"), s, 159, docUse},
		{asking("Cache-Control", "min-fresh=2"), s, 159, docCheck}, {asking("Cache-Control", "min-fresh=60"), s, 100, docUse}, {asking("Cache-Control", "min-fresh=61"), s, 100, docCheck},
		{asking("Cache-Control", "min-fresh=20"), aged, 120, docUse}, {asking("Cache-Control", "min-fresh=20"), aged, 121, docCheck}, {asking("Cache-Control", "min-fresh"), s, 100, docCheck},
		{asking("Cache-Control", "min-fresh=x"), longest, 0, docUse}, {asking("Cache-Control", "min-fresh=x"), longest, 1, docCheck},
		{asking(), longest, most - 1, docUse}, {asking(), longest, most, docCheck}, {asking("Cache-Control", "max-age=2147483647"), longest, most - 1, docUse},
		{asking("Cache-Control", "max-age=2147483646"), longest, most - 1, docCheck}, {asking("Cache-Control", "max-age=10, min-fresh=55"), s, 105, docUse},
		{asking("Cache-Control", "max-age=10", "cache-control", "min-fresh=55"), s, 106, docCheck}, {asking("Cache-Control", "max-age=10", "cache-control", "max-age=5"), s, 106, docCheck},
		{asking("Cache-Control", "no-cache"), s, 100, docCheck}, {asking("Cache-Control", "x, No-Cache=\"a\""), s, 100, docCheck}, {asking("Cache-Control", `"`), s, 100, docCheck},
		{asking("Cache-Control", "no-store, private, public, s-maxage=0, must-revalidate, only-if-cached"), s, 159, docUse},
		{asking("Pragma", "no-cache"), s, 100, docCheck}, {asking("Pragma", "x", "Cache-Control", ""), s, 100, docUse}, {asking("Pragma", "no-cache", "Cache-Control", "max-age=60"), s, 100, docUse},
		{asking(), stored(100, "Cache-Control", "max-age=60, no-cache"), 100, docCheck}, {asking(), stored(100, "Cache-Control", "max-age=60", "cache-control", `no-cache="a"`), 100, docCheck},
		{asking(), stored(100, "Cache-Control", "max-age=60", "cache-control", `"`), 100, docCheck}, {asking(), stored(100, "Cache-Control", "max-age=60", "Pragma", "no-cache"), 100, docUse},
		{asking(), stored(100, "Cache-Control", "s-maxage=60", "Pragma", "no-cache"), 159, docUse}, {asking(), stored(100, "Expires", at(160), "Pragma", "no-cache"), 159, docUse},
		{asking(), stored(100, "Cache-Control", "max-age=60, no-store, private, must-revalidate"), 159, docUse}, {asking(), stored(100, "Cache-Control", "max-age=60", "Vary", "*"), 159, docUse},
		{asking("Range", "bytes=0-1", "If-Match", "*", "Authorization", "x"), s, 159, docUse}, {asking(), stored(100, "Last-Modified", at(0)), 109, docUse}, {asking(), stored(100, "Last-Modified", at(0)), 110, docCheck},
		{asking(), stored(100), 100, docCheck}, {asking(), stored(100, "ETag", `"a"`), 100, docCheck}, {asking(), stored(100, "Cache-Control", "max-age=0"), 100, docCheck},
		{asking(), stored(100, "Date", at(50), "Expires", at(160)), 159, docUse}, {asking(), stored(100, "Date", at(50), "Expires", at(160)), 160, docCheck}, {asking(), api.Stored{}, 0, docCheck},
		{asking("Cache-Control", "max-age=49"), stored(100, "Date", at(50), "Expires", at(160)), 100, docCheck}, {asking("Cache-Control", "max-age=50"), stored(100, "Date", at(50), "Expires", at(160)), 100, docUse},
	} {
		checkVerdict(t, row.q, row.s, row.now, row.want)
		row.q.Method = "HEAD"
		checkVerdict(t, row.q, row.s, row.now, row.want)
	}
}

// Whatever a request says, of replies second by second.
func TestVerdictOfRequests(t *testing.T) {
	w := newTeller()
	for value, c := range w.controls {
		for now := 90; now <= 170; now++ {
			age := max(0, now-100)
			use := age < 60 && !c.NoCache && (c.MaxAge < 0 || c.MaxAge >= age) && c.MinFresh <= 60-age
			checkVerdict(t, asking("cache-CONTROL", value, "Pragma", "no-cache"), stored(100, "Cache-Control", "max-age=60"), now, verdictOf(use))
		}
	}
	for value, noCache := range w.pragmas {
		checkVerdict(t, asking("a", "1", "PRAGMA", value), stored(100, "Cache-Control", "max-age=60"), 130, verdictOf(!noCache))
		checkVerdict(t, asking("pragma", value, "Cache-Control", ""), stored(100, "Cache-Control", "max-age=60"), 130, docUse)
	}
}

// verdictOf answers the verdict on a reply that may be used or may not.
func verdictOf(use bool) int {
	if use {
		return docUse
	}
	return docCheck
}

// Whatever a reply says.
func TestVerdictOfReplies(t *testing.T) {
	for value, c := range controls() {
		lifetime := 40
		if c.MaxAge >= 0 {
			lifetime = c.MaxAge
		}
		if c.Shared >= 0 {
			lifetime = c.Shared
		}
		for now := 90; now <= 210; now++ {
			age := max(0, now-100)
			for _, code := range []int{200, 302, 304, 0} {
				s := stored(100, "Cache-Control", value, "Expires", at(140), "Vary", "*")
				s.Reply.Code = code
				checkVerdict(t, asking("Accept", "x"), s, now, verdictOf(age < lifetime && !c.NoCache))
			}
		}
	}
}

func TestVerdictOfFarTimes(t *testing.T) {
	for _, now := range far() {
		late := now > maxClock
		checkVerdict(t, asking(), stored(0, "Cache-Control", "max-age=60"), now, verdictOf(!late))
		checkVerdict(t, asking(), stored(0, "Cache-Control", "max-age=99999999999"), now, verdictOf(!late))
		checkVerdict(t, asking(), stored(now, "Cache-Control", "max-age=60"), now, docUse)
		checkVerdict(t, asking(), stored(now, "Cache-Control", "max-age=60"), 1000, verdictOf(late))
		checkVerdict(t, asking("Cache-Control", "max-age=0, min-fresh=60"), stored(now, "Cache-Control", "max-age=60"), now, docUse)
		checkVerdict(t, asking("Cache-Control", "max-age=0, min-fresh=61"), stored(now, "Cache-Control", "max-age=60"), now, docCheck)
		checkVerdict(t, asking(), stored(1000, "Cache-Control", "max-age=99999999999", "Age", "99999999999"), now, docCheck)
	}
}

// P18.5: Invalidates

func TestInvalidates(t *testing.T) {
	safe := []string{"GET", "HEAD", "OPTIONS", "TRACE"}
	for _, method := range []string{"GET", "HEAD", "OPTIONS", "TRACE", "POST", "PUT", "DELETE", "PATCH", "CONNECT", "PURGE", "get", "Head", "GET ", " GET", "GE", "GETS", "", "*", "\x00"} {
		for _, code := range append(far(), numbers(-1000, 1000)...) {
			want := !slices.Contains(safe, method) && code >= 200 && code <= 399
			q, r := asking("Cache-Control", "no-store", "Range", "x"), saying(code, "Cache-Control", "no-store", "Vary", "*")
			q.Method = method
			if is := Invalidates(q, r); is != want {
				t.Fatalf("Invalidates(%q, %d) is %v", method, code, is)
			}
		}
	}
	for _, method := range safe {
		for _, other := range beside(method) {
			q := asking()
			q.Method = other
			if is := Invalidates(q, saying(204)); is != (other != method) {
				t.Fatalf("Invalidates(%q, 204) is %v", other, is)
			}
		}
	}
}

// All of the package holds against the words of the document.
func TestByTheDocument(t *testing.T) {
	w := newTeller()
	r := rand.New(rand.NewSource(18))
	storable, use := 0, 0
	for range 40000 {
		q, s, now := w.mixed(r)
		w.checkTag(t, s.Reply)
		if is := Validator(s.Reply); is != w.validator(s.Reply) {
			t.Fatalf("Validator(%q) is %v", s.Reply.Fields, is)
		}
		if is := Passes(q); is != w.passes(q) {
			t.Fatalf("Passes(%q) is %v", q.Fields, is)
		}
		checkStorable(t, q, s.Reply, s.Time, w.storable(q, s.Reply, s.Time))
		checkStorable(t, q, s.Reply, now, w.storable(q, s.Reply, now))
		checkVerdict(t, q, s, now, w.verdict(q, s, now))
		if w.storable(q, s.Reply, now) {
			storable++
		}
		if w.verdict(q, s, now) == docUse {
			use++
		}
	}
	if storable < 2000 || use < 2000 {
		t.Errorf("only %d replies are storable and %d may be used", storable, use)
	}
}

// Nothing but what the document names tells on an answer.
func TestOfOtherParts(t *testing.T) {
	w := newTeller()
	r := rand.New(rand.NewSource(181))
	for range 10000 {
		q, s, now := w.mixed(r)
		tag, tagged := Tag(s.Reply)
		verdict, storable, validator := Verdict(q, s, now), Storable(q, s.Reply, now), Validator(s.Reply)
		passes, invalidates := Passes(q), Invalidates(q, s.Reply)
		q.Target, q.Minor, q.Body = "no-store", 1, "Range: x"
		q.Fields = slices.Concat(list("Vary", "*", "Age", "9"), q.Fields, list("ETag", "x", "Expires", "0", "Host", "no-cache"))
		s.Reply.Reason, s.Reply.Minor, s.Reply.Body = "no-store", 1, "Vary: *"
		s.Reply.Fields = slices.Concat(list("Range", "x", "Authorization", "y"), s.Reply.Fields, list("Pragma", "no-cache, no-store", "Warning", at(7)))
		s.Picks = []api.Pick{{Name: "Range", Has: true, Value: "no-store"}}
		checkVerdict(t, q, s, now, verdict)
		checkTag(t, s.Reply, tag, tagged)
		checkStorable(t, q, s.Reply, now, storable)
		if Validator(s.Reply) != validator || Passes(q) != passes || Invalidates(q, s.Reply) != invalidates {
			t.Fatalf("of %q and %q: %v, %v, %v", q.Fields, s.Reply.Fields, Validator(s.Reply), Passes(q), Invalidates(q, s.Reply))
		}
	}
}

func TestOfManyAndLong(t *testing.T) {
	const many = 50000
	long := strings.Repeat("a", many)
	checkTag(t, saying(200, "ETag", `"`+long+`"`), api.Tag{Text: long}, true)
	checkTag(t, saying(200, "ETag", `"`+long), api.Tag{}, false)
	others := slices.Repeat(list("a", "1", long, long), 1000)
	q := api.Request{Method: "GET", Fields: append(slices.Clone(others), list("Cache-Control", strings.Repeat("x,", many)+"max-age=30")...)}
	r := api.Reply{Code: 200, Fields: append(slices.Clone(others), list("Vary", strings.Repeat("b,", many)+long, "Cache-Control", strings.Repeat(",", many)+"max-age=60")...)}
	checkStorable(t, q, r, 1000, true)
	checkVerdict(t, q, api.Stored{Reply: r, Time: 1000}, 1030, docUse)
	checkVerdict(t, q, api.Stored{Reply: r, Time: 1000}, 1031, docCheck)
	r.Fields = append(r.Fields, list("Vary", strings.Repeat("b,", many)+"*")...)
	checkStorable(t, q, r, 1000, false)
	checkPasses(t, false, slices.Repeat([]string{"If-None-Match", "x"}, many)...)
	checkPasses(t, true, append(slices.Repeat([]string{"If-None-Match", "x"}, many), "range", "")...)
}

// P18.6

// A reply that may be used is fresh.
func TestUsedIsFresh(t *testing.T) {
	w := newTeller()
	r := rand.New(rand.NewSource(182))
	for range 20000 {
		q, s, now := w.mixed(r)
		if Verdict(q, s, now) == docUse && w.lifetime(s) <= w.age(s, now) {
			t.Fatalf("%q of %d may be used at %d, %d old of %d", s.Reply.Fields, s.Time, now, w.age(s, now), w.lifetime(s))
		}
	}
}

// A reply that may not be used now may not be used later either.
func TestNotUsedLater(t *testing.T) {
	w := newTeller()
	r := rand.New(rand.NewSource(183))
	for range 5000 {
		q, s, now := w.mixed(r)
		s.Time, now = within(s.Time, maxClock), within(now, maxClock)
		before := Verdict(q, s, now)
		for _, later := range []int{now, now + 1, now + 2, now + r.Intn(60), s.Time, s.Time + r.Intn(1000), now + day, now + most, maxClock, math.MaxInt} {
			if later < now {
				continue
			}
			if Verdict(q, s, later) < before {
				t.Fatalf("%q of %d may be used at %d but not at %d for %q", s.Reply.Fields, s.Time, later, now, q.Fields)
			}
		}
	}
}

// A request without directives may use every reply that is fresh and not
// NoCache.
func TestUsedWithoutDirectives(t *testing.T) {
	w := newTeller()
	r := rand.New(rand.NewSource(184))
	for range 20000 {
		q, s, now := w.mixed(r)
		q.Fields = w.fieldsOf(r, r.Intn(4), append(docPassing(), "Authorization"))
		use := w.lifetime(s) > w.age(s, now) && !w.control(s.Reply.Fields).NoCache
		checkVerdict(t, q, s, now, verdictOf(use))
	}
}
