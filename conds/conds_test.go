package conds

import (
	"maps"
	"math"
	"math/rand"
	"regexp"
	"slices"
	"strings"
	"testing"
	"time"

	"depot/api"
)

// What the document names, written out, so that a test does not lean on the
// constants that the package uses.
const (
	maxClock  = 253402300799
	noneMatch = "If-None-Match"
	since     = "If-Modified-Since"
	modified  = "Last-Modified"
	reason    = "Not Modified"
	anyForm   = `^[ \t]*\*[ \t]*$`
	tagForm   = `(?:W/)?"([!#-~]*)"`
	listForm  = `^[ \t]*(?:` + tagForm + `[ \t]*)?(?:,[ \t]*(?:` + tagForm + `[ \t]*)?)*$`
)

// docTold has the names of the fields that a client is told which has a reply.
func docTold() []string {
	return []string{"Cache-Control", "Content-Location", "Date", "ETag", "Expires", "Vary", "Age"}
}

// docBody has the names of the fields that a 304 does not change.
func docBody() []string {
	return []string{"Content-Encoding", "Content-Type", "Content-Range"}
}

// docHops has the names of the fields that the document of a layer below lists.
func docHops() []string {
	return []string{
		"Connection", "Keep-Alive", "Proxy-Connection", "Proxy-Authenticate", "Proxy-Authorization",
		"TE", "Trailer", "Transfer-Encoding", "Upgrade", "Content-Length",
	}
}

// at answers a time as a field tells it.
func at(t int) string {
	return time.Unix(int64(t), 0).UTC().Format("Mon, 02 Jan 2006 15:04:05 GMT")
}

// dates has values that tell times, with what they tell.
func dates() map[string]int {
	m := map[string]int{
		"Thursday, 01-Jan-70 00:16:40 GMT": 1000,
		"Thu Jan  1 00:16:39 1970":         999,
	}
	for _, t := range []int{0, 1, 900, 999, 1000, 1001, 86400, 784111777, maxClock - 1, maxClock} {
		m[at(t)] = t
	}
	return m
}

// noDates has values that tell no time.
func noDates() []string {
	return []string{
		"", "0", "-1", "1000", "now", "*", "Thu, 01 Jan 1970 00:16:40", "thu, 01 jan 1970 00:16:40 gmt",
		"Fri, 01 Jan 1970 00:16:40 GMT", " " + at(1000), at(1000) + " ", at(1000) + ", " + at(1000), `"` + at(1000) + `"`,
	}
}

// tags has values that are entity tags, with these.
func tags() map[string]api.Tag {
	return map[string]api.Tag{
		`"a"`:      {Text: "a"},
		`W/"a"`:    {Weak: true, Text: "a"},
		`"b"`:      {Text: "b"},
		`W/"b"`:    {Weak: true, Text: "b"},
		`"A"`:      {Text: "A"},
		`""`:       {},
		`W/""`:     {Weak: true},
		`"a,b"`:    {Text: "a,b"},
		`"*"`:      {Text: "*"},
		`"W/"`:     {Text: "W/"},
		"\"\xff\"": {Text: "\xff"},
	}
}

// noTags has values that are none.
func noTags() []string {
	return []string{"", `"`, "a", "*", "W/", `w/"a"`, `W/ "a"`, `"a`, `a"`, `"a" `, ` "a"`, `"a", "b"`, `"a","a"`, `"a b"`, `'a'`, "\"\x7f\""}
}

// listing is what a value of If-None-Match lists: any tag, or those of some
// texts.
type listing struct {
	any   bool
	texts []string
}

// lists has values that are lists, also such as have no elements, with what
// they list.
func lists() map[string]listing {
	m := map[string]listing{
		"*": {any: true}, " *\t": {any: true}, "\t*": {any: true},
		"": {}, " ": {}, ",": {}, "\t, ,": {},
		`"a", W/"b"`:           {texts: []string{"a", "b"}},
		`W/"a"  ,,"a,b" , `:    {texts: []string{"a", "a,b"}},
		`,"x","y",` + "\t\"\"": {texts: []string{"x", "y", ""}},
		` "b" `:                {texts: []string{"b"}},
	}
	for value, tag := range tags() {
		m[value] = listing{texts: []string{tag.Text}}
	}
	return m
}

// noLists has values that are none, alone or beside others.
func noLists() []string {
	return []string{
		"a", `"`, `"a`, `a"`, "W/", `w/"a"`, `W/ "a"`, `"a" "b"`, `"a""b"`, `"a";"b"`, `"a", b`, `*, "a"`, `"a", *`, "**", "*,", "* *", `"a b"`, `"a", "b`,
		"\"a\"\x00", "\"\x7f\"", `'a'`, "\u00a0*", "*\n",
	}
}

// connections has values of Connection, with what they nominate.
func connections() map[string][]string {
	return map[string][]string{
		"": nil, "close": {"close"}, "X, ,date": {"X", "date"}, "ETAG,Last-Modified": {"ETAG", "Last-Modified"}, "Age": {"Age"},
		`"x", B`: {`"x"`, "B"}, `B, "`: nil, "content-type, Connection": {"content-type", "Connection"},
	}
}

// lower makes the letters A to Z of a text small, and no others.
func lower(s string) string {
	b := []byte(s)
	for i, c := range b {
		if c >= 65 && c <= 90 {
			b[i] = c + 32
		}
	}
	return string(b)
}

// isOneOf tells whether a name is one of some others, in any case.
func isOneOf(name string, others ...string) bool {
	return slices.ContainsFunc(others, func(other string) bool { return lower(other) == lower(name) })
}

// with answers the fields that have one of some names.
func with(l []api.Field, names ...string) []api.Field {
	var some []api.Field
	for _, f := range l {
		if isOneOf(f.Name, names...) {
			some = append(some, f)
		}
	}
	return some
}

// without answers the fields that have none of some names.
func without(l []api.Field, names ...string) []api.Field {
	var some []api.Field
	for _, f := range l {
		if !isOneOf(f.Name, names...) {
			some = append(some, f)
		}
	}
	return some
}

// valuesOf answers the values of all fields of a name.
func valuesOf(l []api.Field, name string) []string {
	var all []string
	for _, f := range with(l, name) {
		all = append(all, f.Value)
	}
	return all
}

// teller answers by the words of the document what the package is to answer of
// fields whose values are of those above.
type teller struct {
	dates       map[string]int
	tags        map[string]api.Tag
	lists       map[string]listing
	connections map[string][]string
	values      map[string][]string // of each field that counts
	far         []int
}

// keys answers the keys of a map, sorted.
func keys[V any](m map[string]V) []string {
	return slices.Sorted(maps.Keys(m))
}

func newTeller() teller {
	w := teller{dates: dates(), tags: tags(), lists: lists(), connections: connections(), far: far()}
	times := append(keys(w.dates), noDates()...)
	w.values = map[string][]string{
		noneMatch: append(keys(w.lists), noLists()...), since: times, modified: times, "Date": times, "Expires": times,
		"ETag": append(keys(w.tags), noTags()...), "Connection": keys(w.connections),
	}
	return w
}

func (w teller) when(l []api.Field, name string) (int, bool) {
	all := valuesOf(l, name)
	if len(all) != 1 {
		return 0, false
	}
	t, ok := w.dates[all[0]]
	return t, ok
}

func (w teller) tag(r api.Reply) (api.Tag, bool) {
	all := valuesOf(r.Fields, "ETag")
	if len(all) != 1 {
		return api.Tag{}, false
	}
	tag, ok := w.tags[all[0]]
	return tag, ok
}

// listed tells whether values, as a list, have the tag of a reply. A * is any
// only where nothing stands beside it, not even another list.
func (w teller) listed(values []string, r api.Reply) bool {
	if len(values) == 1 && w.lists[values[0]].any {
		return true
	}
	var texts []string
	for _, value := range values {
		listed, ok := w.lists[value]
		if !ok || listed.any {
			return false
		}
		texts = append(texts, listed.texts...)
	}
	tag, ok := w.tag(r)
	return ok && slices.Contains(texts, tag.Text)
}

func (w teller) satisfied(q api.Request, r api.Reply) bool {
	if q.Method != "GET" && q.Method != "HEAD" || r.Code != 200 {
		return false
	}
	if values := valuesOf(q.Fields, noneMatch); len(values) > 0 {
		return w.listed(values, r)
	}
	asked, ok := w.when(q.Fields, since)
	changed, too := w.when(r.Fields, modified)
	return ok && too && changed <= asked
}

// written answers the text of a tag.
func written(tag api.Tag) string {
	if tag.Weak {
		return `W/"` + tag.Text + `"`
	}
	return `"` + tag.Text + `"`
}

// asked answers the fields of a request that validates a reply.
func (w teller) asked(q api.Request, r api.Reply) []api.Field {
	l := without(q.Fields, noneMatch, since)
	if tag, ok := w.tag(r); ok {
		l = append(l, api.Field{Name: noneMatch, Value: written(tag)})
	}
	if _, ok := w.when(r.Fields, modified); ok {
		l = append(l, api.Field{Name: since, Value: valuesOf(r.Fields, modified)[0]})
	}
	return l
}

func (w teller) selects(r, n api.Reply) bool {
	if len(valuesOf(n.Fields, "ETag")) > 0 {
		tag, ok := w.tag(r)
		other, too := w.tag(n)
		return ok && too && tag.Text == other.Text
	}
	told, others := valuesOf(n.Fields, modified), valuesOf(r.Fields, modified)
	if len(told) > 0 {
		return len(others) > 0 && strings.Join(told, ", ") == strings.Join(others, ", ")
	}
	return true
}

// merged answers the fields of a stored reply that a 304 has updated.
func (w teller) merged(s api.Stored, n api.Reply) []api.Field {
	taken := append(docHops(), docBody()...)
	for _, value := range valuesOf(n.Fields, "Connection") {
		taken = append(taken, w.connections[value]...)
	}
	appended := without(n.Fields, taken...)
	names := []string{"Age", "Date"}
	for _, f := range appended {
		names = append(names, f.Name)
	}
	return append(without(s.Reply.Fields, names...), appended...)
}

// list makes fields of names and values that take turns.
func list(texts ...string) []api.Field {
	var l []api.Field
	for i := 0; i+1 < len(texts); i += 2 {
		l = append(l, api.Field{Name: texts[i], Value: texts[i+1]})
	}
	return l
}

// asking answers a request by GET with some fields.
func asking(texts ...string) api.Request {
	return api.Request{Method: "GET", Target: "/", Fields: list(texts...), Body: "asked"}
}

// saying answers a whole reply with some fields.
func saying(texts ...string) api.Reply {
	return api.Reply{Code: 200, Reason: "Fine", Fields: list(texts...), Body: "said"}
}

// confirming answers a 304 with some fields.
func confirming(texts ...string) api.Reply {
	return api.Reply{Code: 304, Reason: "Same", Minor: 1, Fields: list(texts...)}
}

// stored answers a reply with some fields as it is kept.
func stored(texts ...string) api.Stored {
	return api.Stored{Reply: saying(texts...), Time: 5, Picks: []api.Pick{{Name: "a", Has: true, Value: "1"}, {Name: "b"}}}
}

// far are integers far from those that a time or a code has.
func far() []int {
	l := []int{math.MinInt, math.MinInt + 1, -maxClock, -1, maxClock + 1, math.MaxInt - 1, math.MaxInt}
	for i := 38; i < 63; i++ {
		l = append(l, 1<<i, 1<<i-1, -1<<i)
	}
	return l
}

// some answers any text of a list.
func some(r *rand.Rand, l ...string) string {
	return l[r.Intn(len(l))]
}

// fieldsOf answers fields of any of some names, in any case. Those that do not
// count have values by which they can be told from one another.
func (w teller) fieldsOf(r *rand.Rand, n int, names ...string) []api.Field {
	var l []api.Field
	for range n {
		name := some(r, names...)
		value := some(r, append(w.values[name], "1", "2")...)
		l = append(l, api.Field{Name: some(r, name, name, lower(name), strings.ToUpper(name), "X-"+name), Value: value})
	}
	return l
}

// mixed answers a request, a stored reply and a 304 of any kind. The request
// often asks with what the reply said, so that it is satisfied now and then.
func (w teller) mixed(r *rand.Rand) (api.Request, api.Stored, api.Reply) {
	q := asking()
	q.Fields = w.fieldsOf(r, r.Intn(5), noneMatch, since, since, "Host", "X")
	q.Method = some(r, "GET", "GET", "GET", "HEAD", "HEAD", "POST", "get", "")
	names := []string{"ETag", "ETag", modified, modified, "Date", "Age", "Expires", "Vary", "Cache-Control", "Content-Location", "Content-Type", "X", "B"}
	s := stored()
	s.Reply.Fields = w.fieldsOf(r, r.Intn(7), names...)
	if r.Intn(8) == 0 {
		s.Reply.Code = []int{201, 204, 206, 304, 404, 0, -200}[r.Intn(7)]
	}
	if r.Intn(8) == 0 {
		s.Time, s.Picks = w.far[r.Intn(len(w.far))], nil
	}
	switch r.Intn(4) {
	case 0:
		q.Fields = append(q.Fields, list(noneMatch, some(r, append(valuesOf(s.Reply.Fields, "ETag"), "*")...))...)
	case 1:
		q.Fields = append(q.Fields, list(since, some(r, append(valuesOf(s.Reply.Fields, modified), at(maxClock))...))...)
	}
	n := confirming()
	n.Fields = w.fieldsOf(r, r.Intn(5), append(slices.Concat(docHops(), docBody(), names), "Connection", "Connection", "ETag", modified)...)
	if r.Intn(2) == 0 {
		// A reply is often confirmed by what it said itself.
		n.Fields = append(n.Fields, with(s.Reply.Fields, some(r, "ETag", modified))...)
	}
	return q, s, n
}

// kept fails if fields are not what they were.
func kept(t *testing.T, l, before []api.Field) {
	t.Helper()
	if !slices.Equal(l, before) {
		t.Fatalf("%.300q have become %.300q", before, l)
	}
}

func checkSatisfied(t *testing.T, q api.Request, r api.Reply, want bool) {
	t.Helper()
	asked, said := slices.Clone(q.Fields), slices.Clone(r.Fields)
	if is := Satisfied(q, r); is != want {
		t.Fatalf("Satisfied(%s %.300q, %d %.300q) is %v", q.Method, q.Fields, r.Code, r.Fields, is)
	}
	kept(t, q.Fields, asked)
	kept(t, r.Fields, said)
}

func checkNotModified(t *testing.T, r api.Reply, want []api.Field) {
	t.Helper()
	before := slices.Clone(r.Fields)
	n := NotModified(r)
	if n.Code != 304 || n.Reason != reason || n.Minor != 1 || n.Body != "" {
		t.Fatalf("NotModified(%d %.300q) is %d %q of 1.%d with %q", r.Code, r.Fields, n.Code, n.Reason, n.Minor, n.Body)
	}
	if !slices.Equal(n.Fields, want) {
		t.Fatalf("NotModified(%.300q) has %.300q, want %.300q", r.Fields, n.Fields, want)
	}
	kept(t, r.Fields, before)
}

func checkAsk(t *testing.T, q api.Request, r api.Reply, want []api.Field) {
	t.Helper()
	asked, said := slices.Clone(q.Fields), slices.Clone(r.Fields)
	a := Ask(q, r)
	if a.Method != "GET" || a.Target != q.Target || a.Minor != 1 || a.Body != "" {
		t.Fatalf("Ask(%s %.300q) is %s %.300q of 1.%d with %q", q.Method, q.Target, a.Method, a.Target, a.Minor, a.Body)
	}
	if !slices.Equal(a.Fields, want) {
		t.Fatalf("Ask(%.300q, %.300q) has %.300q, want %.300q", q.Fields, r.Fields, a.Fields, want)
	}
	kept(t, q.Fields, asked)
	kept(t, r.Fields, said)
}

func checkSelects(t *testing.T, r, n api.Reply, want bool) {
	t.Helper()
	said, told := slices.Clone(r.Fields), slices.Clone(n.Fields)
	if is := Selects(r, n); is != want {
		t.Fatalf("Selects(%.300q, %.300q) is %v", r.Fields, n.Fields, is)
	}
	kept(t, r.Fields, said)
	kept(t, n.Fields, told)
}

func checkMerge(t *testing.T, s api.Stored, n api.Reply, now int, want []api.Field) api.Stored {
	t.Helper()
	said, told, picks := slices.Clone(s.Reply.Fields), slices.Clone(n.Fields), slices.Clone(s.Picks)
	m := Merge(s, n, now)
	if m.Time != now || !slices.Equal(m.Picks, s.Picks) {
		t.Fatalf("Merge at %d with %q is of %d with %q", now, []any{s.Picks}, m.Time, []any{m.Picks})
	}
	if m.Reply.Code != s.Reply.Code || m.Reply.Reason != s.Reply.Reason || m.Reply.Minor != s.Reply.Minor || m.Reply.Body != s.Reply.Body {
		t.Fatalf("Merge of %+v with %+v is %+v", s.Reply, n, m.Reply)
	}
	if !slices.Equal(m.Reply.Fields, want) {
		t.Fatalf("Merge(%.300q, %.300q) has %.300q, want %.300q", said, told, m.Reply.Fields, want)
	}
	kept(t, s.Reply.Fields, said)
	kept(t, n.Fields, told)
	if !slices.Equal(s.Picks, picks) {
		t.Fatalf("%q have become %q", []any{picks}, []any{s.Picks})
	}
	return m
}

// P19.1: Satisfied

func TestSatisfied(t *testing.T) {
	r := saying("ETag", `"b"`, modified, at(1000))
	for _, row := range []struct {
		q    api.Request
		r    api.Reply
		want bool
	}{
		{asking(), r, false},
		{asking(noneMatch, `"a"`), saying("ETag", `W/"a"`), true},
		{asking(noneMatch, `W/"a"`), saying("etag", `"a"`), true},
		{asking(noneMatch, `"a"`), saying("ETag", `"b"`), false},
		{asking(noneMatch, `"A"`), saying("ETag", `"a"`), false},
		{asking("if-NONE-match", `"x", "a"`), saying("ETag", `"a"`), true},
		{asking(noneMatch, `"x"`, "Host", "h", noneMatch, `W/"b"`), r, true},
		{asking(noneMatch, `"b"`, noneMatch, `"x"`), r, true},
		{asking(noneMatch, `"b"`, noneMatch, "x"), r, false},
		{asking(noneMatch, `"b"`, noneMatch, ""), r, true},
		{asking(noneMatch, `"b`, noneMatch, `c"`), saying("ETag", `"b, c"`), false},
		{asking(noneMatch, `"b,c"`), saying("ETag", `"b,c"`), true},
		{asking(noneMatch, `"b","c"`), saying("ETag", `"b,c"`), false},
		{asking(noneMatch, "*"), r, true},
		{asking(noneMatch, " * "), saying(), true},
		{asking(noneMatch, "*"), saying("ETag", "a"), true},
		{asking(noneMatch, "*", noneMatch, "*"), r, false},
		{asking(noneMatch, "*", noneMatch, ""), r, false},
		{asking(noneMatch, "", noneMatch, "*"), r, false},
		{asking(noneMatch, `*, "b"`), r, false},
		{asking(noneMatch, `"*"`), saying("ETag", `"*"`), true},
		{asking(noneMatch, `"*"`), r, false},
		{asking(noneMatch, `"b"`), saying("ETag", `"b"`, "ETag", `"b"`), false},
		{asking(noneMatch, `"b"`), saying("ETag", "b"), false},
		{asking(noneMatch, `b`), saying("ETag", "b"), false},
		{asking(noneMatch, `""`), saying("ETag", `""`), true},
		{asking(noneMatch, `""`), saying(), false},
		{asking(noneMatch, `W/""`), saying("ETag", "a"), false},
		{asking(noneMatch, ""), saying("ETag", `""`), false},
		{asking(noneMatch, at(1000)), r, false},
		// If-None-Match tells, and If-Modified-Since beside it tells nothing.
		{asking(noneMatch, `"x"`, since, at(1000)), r, false},
		{asking(since, at(1000), noneMatch, ""), r, false},
		{asking(since, at(1000), noneMatch, "x"), r, false},
		{asking(since, at(1000), noneMatch, `"a"`), saying(modified, at(1000)), false},
		{asking(since, at(0), noneMatch, `"b"`), r, true},
		{asking(since, "x", noneMatch, "*"), r, true},
		{asking(since, at(1000)), r, true},
		{asking(since, at(1001)), r, true},
		{asking(since, at(999)), r, false},
		{asking("IF-modified-SINCE", at(1000)), saying("last-modified", at(1000)), true},
		{asking(since, "Thursday, 01-Jan-70 00:16:40 GMT"), r, true},
		{asking(since, "Thu Jan  1 00:16:39 1970"), r, false},
		{asking(since, at(1000)), saying("ETag", `"b"`), false},
		{asking(since, at(1000)), saying("Date", at(900), "Expires", at(900)), false},
		{asking(since, at(1000)), saying(modified, at(900), modified, at(900)), false},
		{asking(since, at(1000), since, at(1000)), r, false},
		{asking(since, "x"), r, false},
		{asking(since, at(1000)), saying(modified, "x"), false},
		{asking(since, "x"), saying(modified, "x"), false},
		{asking(since, ""), saying(modified, ""), false},
		{asking(since, "*"), r, false},
		{asking(since, `"b"`), r, false},
		{asking("If-Match", `"b"`, "If-Unmodified-Since", at(1000), "ETag", `"b"`, modified, at(1000), "If-Range", `"b"`), r, false},
		{asking(noneMatch, `"b"`), saying(noneMatch, `"b"`, since, at(0)), false},
	} {
		checkSatisfied(t, row.q, row.r, row.want)
		row.q.Method = "HEAD"
		checkSatisfied(t, row.q, row.r, row.want)
		row.q.Method = "PUT"
		checkSatisfied(t, row.q, row.r, false)
		row.q.Method, row.r.Code = "GET", 304
		checkSatisfied(t, row.q, row.r, false)
	}
	checkSatisfied(t, api.Request{}, api.Reply{}, false)
	checkSatisfied(t, asking(noneMatch, "*"), api.Reply{}, false)
	checkSatisfied(t, api.Request{Fields: list(noneMatch, "*")}, r, false)
}

// beside answers all texts that are one byte away from another one.
func beside(s string) []string {
	var l []string
	for i := range len(s) + 1 {
		for c := range 256 {
			b := string([]byte{byte(c)})
			l = append(l, s[:i]+b+s[i:])
			if i < len(s) {
				l = append(l, s[:i]+b+s[i+1:])
			}
		}
		if i < len(s) {
			l = append(l, s[:i]+s[i+1:])
		}
	}
	return l
}

// Methods are told by their case.
func TestSatisfiedOfMethods(t *testing.T) {
	methods := append(beside("GET"), "", "POST", "PUT", "DELETE", "OPTIONS", "TRACE", "PATCH", "CONNECT", "get", "head", "Head", "GET", "HEAD", "GET HEAD")
	for _, method := range append(methods, beside("HEAD")...) {
		tagged, dated := asking(noneMatch, `"a"`), asking(since, at(1000))
		tagged.Method, dated.Method = method, method
		want := method == "GET" || method == "HEAD"
		checkSatisfied(t, tagged, saying("ETag", `"a"`), want)
		checkSatisfied(t, dated, saying(modified, at(900)), want)
	}
}

func TestSatisfiedOfCodes(t *testing.T) {
	codes := far()
	for code := -300; code <= 1100; code++ {
		codes = append(codes, code)
	}
	for _, code := range codes {
		r := saying("ETag", `"a"`, modified, at(1000))
		r.Code = code
		for _, q := range []api.Request{asking(noneMatch, `"a"`), asking(noneMatch, "*"), asking(since, at(1000))} {
			checkSatisfied(t, q, r, code == 200)
		}
	}
}

// Whatever If-None-Match lists, alone and beside another value, and whatever
// tag a reply has.
func TestSatisfiedOfLists(t *testing.T) {
	w := newTeller()
	for _, value := range w.values[noneMatch] {
		for _, tag := range w.values["ETag"] {
			r := saying("ETag", tag, modified, at(1000))
			checkSatisfied(t, asking(noneMatch, value), r, w.listed([]string{value}, r))
			checkSatisfied(t, asking(since, at(1000), noneMatch, value, since, at(1000)), r, w.listed([]string{value}, r))
		}
		checkSatisfied(t, asking(noneMatch, value), saying(modified, at(1000)), w.lists[value].any)
		for _, other := range w.values[noneMatch] {
			r := saying("ETag", `"a"`)
			checkSatisfied(t, asking(noneMatch, value, "a", "1", noneMatch, other), r, w.listed([]string{value, other}, r))
		}
	}
}

// Whatever times are told.
func TestSatisfiedOfTimes(t *testing.T) {
	w := newTeller()
	for _, asked := range w.values[since] {
		for _, changed := range w.values[modified] {
			a, ok := w.dates[asked]
			b, too := w.dates[changed]
			checkSatisfied(t, asking("a", "1", since, asked), saying(modified, changed, "Date", at(0)), ok && too && b <= a)
			checkSatisfied(t, asking(since, asked, since, asked), saying(modified, changed), false)
			checkSatisfied(t, asking(since, asked), saying(modified, changed, modified, changed), false)
		}
	}
	for asked := 900; asked < 1100; asked++ {
		checkSatisfied(t, asking(since, at(asked)), saying(modified, at(1000)), asked >= 1000)
	}
}

// words answers all texts of some parts, up to a number of them.
func words(most int, parts ...string) []string {
	all := []string{""}
	for from := 0; most > 0; most-- {
		end := len(all)
		for _, word := range all[from:end] {
			for _, part := range parts {
				all = append(all, word+part)
			}
		}
		from = end
	}
	return all
}

func TestSatisfiedOfShortWords(t *testing.T) {
	isAny, isList, tagOf := regexp.MustCompile(anyForm), regexp.MustCompile(listForm), regexp.MustCompile(tagForm)
	for _, word := range words(6, `"`, "W/", "a", "*", ",", " ") {
		every := isAny.MatchString(word)
		hasA, hasNone := false, false
		if isList.MatchString(word) {
			for _, parts := range tagOf.FindAllStringSubmatch(word, -1) {
				hasA, hasNone = hasA || parts[1] == "a", hasNone || parts[1] == ""
			}
		}
		q := asking(noneMatch, word)
		checkSatisfied(t, q, saying("ETag", `"a"`), every || hasA)
		checkSatisfied(t, q, saying("ETag", `W/""`), every || hasNone)
		checkSatisfied(t, q, saying("ETag", `a`), every)
	}
}

func TestSatisfiedOfEachByte(t *testing.T) {
	for c := range 256 {
		b := string([]byte{byte(c)})
		inner, blank := c == 33 || c >= 35 && c <= 126 || c >= 128, c == 32 || c == 9
		checkSatisfied(t, asking(noneMatch, `"a`+b+`"`), saying("ETag", `"a`+b+`"`), inner)
		checkSatisfied(t, asking(noneMatch, `"a`+b+`"`), saying("ETag", `"a"`), false)
		checkSatisfied(t, asking(noneMatch, b+`"a"`), saying("ETag", `"a"`), blank || c == ',')
		checkSatisfied(t, asking(noneMatch, `"a"`+b), saying("ETag", `"a"`), blank || c == ',')
		checkSatisfied(t, asking(noneMatch, `"a"`+b+`"b"`), saying("ETag", `"a"`), c == ',')
		checkSatisfied(t, asking(noneMatch, b), saying("ETag", `"a"`), c == '*')
		checkSatisfied(t, asking(noneMatch, b+"*"), saying("ETag", `"a"`), blank)
		checkSatisfied(t, asking(noneMatch, "*"+b), saying("ETag", `"a"`), blank)
	}
}

func TestSatisfiedOfNamesBeside(t *testing.T) {
	r := saying("ETag", `"a"`, modified, at(1000))
	for _, name := range append(beside(noneMatch), "IF-NONE-MATCH", "if-none-match", "If-Match", "None-Match", "If-Range", "") {
		checkSatisfied(t, asking(name, `"a"`), r, isOneOf(name, noneMatch))
		// Only a field that counts keeps the other one from being asked.
		checkSatisfied(t, asking(since, at(1000), name, "x"), r, !isOneOf(name, noneMatch, since))
	}
	for _, name := range append(beside(since), "IF-MODIFIED-SINCE", "if-modified-since", "If-Unmodified-Since", "If-Modified-\u017fince", modified) {
		checkSatisfied(t, asking(name, at(1000)), r, isOneOf(name, since))
	}
	for _, name := range append(beside("ETag"), "etag", "ETAG", "X-ETag", noneMatch) {
		checkSatisfied(t, asking(noneMatch, `"a"`), saying(name, `"a"`), isOneOf(name, "ETag"))
	}
	for _, name := range append(beside(modified), "LAST-MODIFIED", "last-modified", "La\u017ft-Modified", since, "Date") {
		checkSatisfied(t, asking(since, at(1000)), saying(name, at(1000)), isOneOf(name, modified))
	}
}

// shortLists answers all lists of up to a number of some fields.
func shortLists(most int, texts ...string) [][]api.Field {
	all := [][]api.Field{nil}
	for from := 0; most > 0; most-- {
		end := len(all)
		for _, shorter := range all[from:end] {
			for _, f := range list(texts...) {
				all = append(all, append(slices.Clone(shorter), f))
			}
		}
		from = end
	}
	return all
}

// ofEach makes a check of a request with each of some lists of fields, and of a
// reply with each of some others.
func ofEach(requests, replies [][]api.Field, check func(q api.Request, r api.Reply)) {
	for _, asked := range requests {
		for _, said := range replies {
			q, r := asking(), saying()
			q.Fields, r.Fields = asked, said
			check(q, r)
		}
	}
}

func TestSatisfiedOfShortLists(t *testing.T) {
	w := newTeller()
	requests := shortLists(3, noneMatch, `"a"`, noneMatch, "*", noneMatch, `"b"`, noneMatch, "", since, at(900), since, at(1000), since, "now")
	replies := shortLists(2, "ETag", `"a"`, "ETag", `W/"b"`, "ETag", "a", modified, at(900), modified, at(1000), modified, "now")
	ofEach(requests, replies, func(q api.Request, r api.Reply) { checkSatisfied(t, q, r, w.satisfied(q, r)) })
}

// P19.1: NotModified

func TestNotModified(t *testing.T) {
	checkNotModified(t, api.Reply{}, nil)
	checkNotModified(t, api.Reply{Fields: []api.Field{}}, nil)
	checkNotModified(t, saying("X", "1", modified, at(900), "Content-Type", "t", "Server", "s", "Pragma", "no-cache", "", ""), nil)
	for i, name := range docTold() {
		for _, other := range []string{name, lower(name), strings.ToUpper(name)} {
			l := list(other, "", "X", "1", other, " v ", "X-"+name, "2", other, "\x00")
			checkNotModified(t, saying("X", "1", other, "v"), list(other, "v"))
			checkNotModified(t, api.Reply{Code: i, Fields: l}, []api.Field{l[0], l[2], l[4]})
		}
	}
	r := saying("age", "1", "Vary", "a", "Content-Language", "de", "Expires", "0", "ETag", `"a"`, modified, at(0), "DATE", "d", "content-location", "/", "Vary", "b", "Cache-Control", "c", "Location", "/")
	want := list("age", "1", "Vary", "a", "Expires", "0", "ETag", `"a"`, "DATE", "d", "content-location", "/", "Vary", "b", "Cache-Control", "c")
	checkNotModified(t, r, want)
	for _, code := range append(far(), 0, 200, 206, 304, 404, 599) {
		for _, minor := range []int{0, 1, 2, -1} {
			checkNotModified(t, api.Reply{Code: code, Reason: "Other", Minor: minor, Fields: r.Fields, Body: "b"}, want)
		}
	}
}

// named answers fields of some names, each with a value of its own.
func named(names ...string) []api.Field {
	var l []api.Field
	for i, name := range names {
		l = append(l, api.Field{Name: name, Value: strings.Repeat("v", i%7)})
	}
	return l
}

func TestNotModifiedOfNamesBeside(t *testing.T) {
	names := []string{"", "Expire\u017f", "Content", "Content-Length", "Content-Type", "Content-Encoding", "Content-Range", modified, "Control", "Cache", "Tag", "Set-Cookie", "Warning"}
	for _, name := range docTold() {
		names = append(names, beside(name)...)
	}
	l := named(names...)
	checkNotModified(t, api.Reply{Fields: l}, with(l, docTold()...))
	for _, f := range l {
		checkNotModified(t, api.Reply{Fields: []api.Field{f}}, with([]api.Field{f}, docTold()...))
	}
}

func TestNotModifiedOfShortLists(t *testing.T) {
	for _, l := range shortLists(4, "Date", "1", "date", "2", "ETag", "x", "Age", "3", "X", "4", modified, "5", "Content-Type", "6") {
		checkNotModified(t, api.Reply{Code: 200, Fields: l}, with(l, docTold()...))
	}
}

// P19.2

func TestAsk(t *testing.T) {
	day := "Thursday, 01-Jan-70 00:16:40 GMT"
	for _, row := range []struct {
		q    api.Request
		r    api.Reply
		want []api.Field
	}{
		{asking(), saying(), nil},
		{asking(), saying("ETag", `W/"a"`), list(noneMatch, `W/"a"`)},
		{asking(), saying("ETag", `"a"`), list(noneMatch, `"a"`)},
		{asking(), saying("etag", `""`), list(noneMatch, `""`)},
		{asking(), saying("ETag", `"a,b"`), list(noneMatch, `"a,b"`)},
		{asking(), saying(modified, at(1000)), list(since, at(1000))},
		// The time is asked with as it was told.
		{asking(), saying("last-modified", day), list(since, day)},
		{asking(), saying(modified, "Thu Jan  1 00:16:39 1970"), list(since, "Thu Jan  1 00:16:39 1970")},
		{asking(), saying(modified, at(1000), "X", "1", "ETag", `"a"`), list(noneMatch, `"a"`, since, at(1000))},
		{asking(), saying("ETag", "a", modified, at(1000)), list(since, at(1000))},
		{asking(), saying("ETag", `"a"`, modified, "x"), list(noneMatch, `"a"`)},
		{asking(), saying("ETag", `"a"`, "ETag", `"a"`, modified, at(0)), list(since, at(0))},
		{asking(), saying("ETag", `"a"`, modified, at(0), modified, at(0)), list(noneMatch, `"a"`)},
		{asking(), saying("ETag", "", modified, ""), nil},
		{asking(), saying("Date", at(900), "Expires", at(900), noneMatch, `"a"`, since, at(900)), nil},
		{asking("Host", "h", "X", "1", "host", "i", "", ""), saying(), list("Host", "h", "X", "1", "host", "i", "", "")},
		{asking(noneMatch, `"b"`, since, at(0)), saying(), nil},
		{asking("if-none-match", "*", "Host", "h", "IF-MODIFIED-SINCE", "x", noneMatch, `"b"`), saying("ETag", `"a"`), list("Host", "h", noneMatch, `"a"`)},
		{asking(since, at(2000), "Host", "h", since, at(2000)), saying(modified, at(1000)), list("Host", "h", since, at(1000))},
		{asking(noneMatch, `"b"`, "X", "1"), saying(modified, at(1000)), list("X", "1", since, at(1000))},
		{asking("If-Match", `"b"`, "If-Unmodified-Since", at(0), "Range", "r", "ETag", "e", modified, "m", "Age", "9"), saying("ETag", `"a"`),
			list("If-Match", `"b"`, "If-Unmodified-Since", at(0), "Range", "r", "ETag", "e", modified, "m", "Age", "9", noneMatch, `"a"`)},
		{asking("Cache-Control", "no-cache", "Authorization", "x"), saying("ETag", `"a"`), list("Cache-Control", "no-cache", "Authorization", "x", noneMatch, `"a"`)},
	} {
		checkAsk(t, row.q, row.r, row.want)
		for _, method := range []string{"HEAD", "PUT", "get", ""} {
			checkAsk(t, api.Request{Method: method, Target: "*" + method, Minor: len(method), Fields: row.q.Fields, Body: method}, row.r, row.want)
		}
		for _, code := range append(far(), 0, 304, 404) {
			row.r.Code, row.r.Reason, row.r.Minor, row.r.Body = code, "ETag", 7, `ETag: "b"`
			checkAsk(t, row.q, row.r, row.want)
		}
	}
}

// Whatever a target is, it stays.
func TestAskOfTargets(t *testing.T) {
	for _, target := range append(beside("/a"), "", "*", "http://a/b?c", " ", "\x00", strings.Repeat("/a", 50000)) {
		q := asking("Host", "h")
		q.Target = target
		checkAsk(t, q, saying("ETag", `"a"`), list("Host", "h", noneMatch, `"a"`))
	}
}

// Whatever validators a reply has.
func TestAskOfValidators(t *testing.T) {
	w := newTeller()
	for _, tag := range w.values["ETag"] {
		for _, date := range w.values[modified] {
			var want []api.Field
			if _, ok := w.tags[tag]; ok {
				want = append(want, list(noneMatch, tag)...)
			}
			if _, ok := w.dates[date]; ok {
				want = append(want, list(since, date)...)
			}
			checkAsk(t, asking(noneMatch, `"x"`, since, at(7)), saying("ETag", tag, modified, date), want)
			checkAsk(t, asking("a", "1"), saying(modified, date, "b", "2", "etag", tag), append(list("a", "1"), want...))
		}
	}
}

func TestAskOfNamesBeside(t *testing.T) {
	l := named(append(beside(noneMatch), beside(since)...)...)
	l = append(l, list("If-Modified-\u017fince", "x", "If-Match", "y", "If-None", "z", "", "")...)
	q := asking()
	q.Fields = l
	want := append(without(l, noneMatch, since), list(noneMatch, `"a"`, since, at(900))...)
	checkAsk(t, q, saying("ETag", `"a"`, modified, at(900)), want)
	for _, name := range append(beside("ETag"), "X-ETag") {
		var want []api.Field
		if isOneOf(name, "ETag") {
			want = list(noneMatch, `"a"`)
		}
		checkAsk(t, asking(), saying(name, `"a"`), want)
	}
	for _, name := range append(beside(modified), "La\u017ft-Modified") {
		var want []api.Field
		if isOneOf(name, modified) {
			want = list(since, at(900))
		}
		checkAsk(t, asking(), saying(name, at(900)), want)
	}
}

func TestAskOfShortLists(t *testing.T) {
	w := newTeller()
	requests := shortLists(3, "Host", "h", noneMatch, `"b"`, "if-modified-since", at(7), "X", "1", "If-Match", "*")
	replies := shortLists(3, "ETag", `"a"`, "ETag", "a", modified, at(900), modified, "now", "Date", at(900))
	ofEach(requests, replies, func(q api.Request, r api.Reply) { checkAsk(t, q, r, w.asked(q, r)) })
}

// P19.3

func TestSelects(t *testing.T) {
	for _, row := range []struct {
		r, n api.Reply
		want bool
	}{
		{saying(), confirming(), true},
		{saying("ETag", `"a"`, modified, at(900)), confirming(), true},
		{saying("ETag", `"a"`, modified, at(900)), confirming("Date", at(900), "X", "1"), true},
		{saying("ETag", `"a"`), confirming("ETag", `"a"`), true},
		{saying("ETag", `W/"a"`), confirming("ETag", `"a"`), true},
		{saying("ETag", `"a"`), confirming("etag", `W/"a"`), true},
		{saying("ETag", `W/"a"`), confirming("ETag", `W/"a"`), true},
		{saying("ETag", `"a"`), confirming("ETag", `"b"`), false},
		{saying("ETag", `"a"`), confirming("ETag", `"A"`), false},
		{saying("ETag", `""`), confirming("ETag", `W/""`), true},
		{saying(), confirming("ETag", `""`), false},
		{saying(), confirming("ETag", `"a"`), false},
		{saying("ETag", "a"), confirming("ETag", "a"), false},
		{saying("ETag", "*"), confirming("ETag", "*"), false},
		{saying("ETag", ""), confirming("ETag", ""), false},
		{saying("ETag", `"a"`), confirming("ETag", "a"), false},
		{saying("ETag", "a"), confirming("ETag", `"a"`), false},
		{saying("ETag", "a"), confirming("ETag", `""`), false},
		{saying("ETag", `"a"`), confirming("ETag", `"a"`, "ETag", `"a"`), false},
		{saying("ETag", `"a"`, "ETag", `"a"`), confirming("ETag", `"a"`), false},
		{saying("ETag", `"a"`, "ETag", `"a"`), confirming("ETag", `"a"`, "ETag", `"a"`), false},
		{saying("ETag", `"a"`), confirming("ETag", `"a", "b"`), false},
		// ETag tells, and Last-Modified beside it tells nothing.
		{saying("ETag", `"a"`, modified, at(900)), confirming("ETag", `"a"`, modified, at(1000)), true},
		{saying("ETag", `"a"`), confirming(modified, at(1000), "ETag", `"a"`), true},
		{saying("ETag", `"b"`, modified, at(900)), confirming("ETag", `"a"`, modified, at(900)), false},
		{saying(modified, at(900)), confirming("ETag", "", modified, at(900)), false},
		{saying(modified, at(900)), confirming("ETag", `"a"`, modified, at(900)), false},
		{saying(modified, at(900)), confirming(modified, at(900)), true},
		{saying("last-modified", at(900), "ETag", `"a"`), confirming("LAST-MODIFIED", at(900)), true},
		{saying(modified, at(900)), confirming(modified, at(901)), false},
		{saying(modified, at(900)), confirming(modified, at(899)), false},
		{saying(), confirming(modified, at(900)), false},
		{saying("ETag", `"a"`), confirming(modified, at(900)), false},
		// The texts are to be the same, whatever time they tell, or none.
		{saying(modified, at(1000)), confirming(modified, "Thursday, 01-Jan-70 00:16:40 GMT"), false},
		{saying(modified, "x"), confirming(modified, "x"), true},
		{saying(modified, "x"), confirming(modified, "X"), false},
		{saying(modified, "x"), confirming(modified, "x "), false},
		{saying(modified, ""), confirming(modified, ""), true},
		{saying(modified, ""), confirming(modified, "x"), false},
		{saying(modified, "x"), confirming(modified, ""), false},
		{saying(), confirming(modified, ""), false},
		{saying(modified, "a", "X", "1", modified, "b"), confirming(modified, "a", modified, "b"), true},
		{saying(modified, "a, b"), confirming(modified, "a", modified, "b"), true},
		{saying(modified, "a", modified, "b"), confirming(modified, "a, b"), true},
		{saying(modified, "a", modified, "b"), confirming(modified, "b", modified, "a"), false},
		{saying(modified, "a", modified, "b"), confirming(modified, "a"), false},
		{saying(modified, "a"), confirming(modified, "a", modified, "a"), false},
		{saying("Date", at(900)), confirming("Date", at(900), modified, at(900)), false},
	} {
		checkSelects(t, row.r, row.n, row.want)
		for _, code := range []int{0, 200, 304, 404, -1, math.MaxInt} {
			row.r.Code, row.n.Code, row.n.Reason, row.n.Minor, row.n.Body = code, 300-code, "x", 7, row.r.Body
			checkSelects(t, row.r, row.n, row.want)
		}
	}
}

// Whatever tags and times both have.
func TestSelectsOfValidators(t *testing.T) {
	w := newTeller()
	for _, value := range w.values["ETag"] {
		checkSelects(t, saying("ETag", value), confirming(), true)
		checkSelects(t, saying(), confirming("ETag", value), false)
		for _, other := range w.values["ETag"] {
			tag, ok := w.tags[value]
			same, too := w.tags[other]
			want := ok && too && tag.Text == same.Text
			checkSelects(t, saying("a", "1", "ETag", value, modified, "x"), confirming("b", "2", "ETag", other, modified, "y"), want)
			checkSelects(t, saying("eTag", value), confirming("ETAG", other, "etag", other), false)
			checkSelects(t, saying("eTag", value, "ETag", value), confirming("ETAG", other), false)
		}
	}
	for _, value := range w.values[modified] {
		checkSelects(t, saying(modified, value, "ETag", "x"), confirming(), true)
		for _, other := range w.values[modified] {
			checkSelects(t, saying("a", "1", modified, value, "ETag", "x"), confirming(modified, other, "b", "2"), value == other)
		}
	}
}

func TestSelectsOfNamesBeside(t *testing.T) {
	for _, name := range append(beside("ETag"), "X-ETag", noneMatch) {
		checkSelects(t, saying(name, `"a"`), confirming("ETag", `"a"`), isOneOf(name, "ETag"))
		checkSelects(t, saying("ETag", `"a"`), confirming(name, `"b"`), !isOneOf(name, "ETag"))
	}
	for _, name := range append(beside(modified), "La\u017ft-Modified", since) {
		checkSelects(t, saying(name, "a"), confirming(modified, "a"), isOneOf(name, modified))
		checkSelects(t, saying(modified, "a"), confirming(name, "b"), !isOneOf(name, modified))
	}
}

func TestSelectsOfShortLists(t *testing.T) {
	w := newTeller()
	some := []string{"ETag", `"a"`, "etag", `W/"a"`, "ETag", `"b"`, "ETag", "a", modified, at(900), modified, at(1000), modified, "", "Date", at(900)}
	for _, said := range shortLists(2, some...) {
		for _, told := range shortLists(3, some...) {
			r, n := saying(), confirming()
			r.Fields, n.Fields = said, told
			checkSelects(t, r, n, w.selects(r, n))
		}
	}
}

// P19.4

func TestMerge(t *testing.T) {
	for _, row := range []struct {
		s    api.Stored
		n    api.Reply
		want []api.Field
	}{
		{stored(), confirming(), nil},
		{stored("A", "1", "B", "2", "A", "3"), confirming(), list("A", "1", "B", "2", "A", "3")},
		{stored("A", "1", "Age", "9", "Date", "d", "B", "2"), confirming(), list("A", "1", "B", "2")},
		{stored("age", "9", "AGE", "8", "date", "d", "dATE", "e"), confirming(), nil},
		{stored("A", "1"), confirming("B", "2"), list("A", "1", "B", "2")},
		{stored("A", "1", "B", "2", "a", "3"), confirming("a", "4"), list("B", "2", "a", "4")},
		{stored("A", "1", "B", "2"), confirming("B", "3", "A", "4", "b", "5"), list("B", "3", "A", "4", "b", "5")},
		{stored("A", "1"), confirming("A", "1"), list("A", "1")},
		{stored("A", "1"), confirming("A", ""), list("A", "")},
		{stored("Age", "9", "Date", "d"), confirming("Date", "e", "Age", "7"), list("Date", "e", "Age", "7")},
		{stored("A", "1"), confirming("Age", "7"), list("A", "1", "Age", "7")},
		{stored("Content-Type", "t", "Content-Encoding", "e", "Content-Range", "r"), confirming("content-type", "u", "CONTENT-ENCODING", "f", "Content-Range", "s"),
			list("Content-Type", "t", "Content-Encoding", "e", "Content-Range", "r")},
		{stored("A", "1"), confirming("Content-Type", "u", "Content-Encoding", "f", "Content-Range", "s", "Content-Language", "de"), list("A", "1", "Content-Language", "de")},
		{stored("A", "1", "Content-Location", "/"), confirming("Content-Location", "/a", "Content-Length", "7"), list("A", "1", "Content-Location", "/a")},
		{stored("A", "1", "X", "2"), confirming("Connection", "X, close", "x", "3", "Y", "4"), list("A", "1", "X", "2", "Y", "4")},
		{stored("Age", "1", "Date", "2"), confirming("Connection", "age, date", "Age", "3", "Date", "4"), nil},
		{stored("A", "1"), confirming("Connection", `A, "`, "A", "2"), list("A", "2")},
		// What the stored reply nominates is its own affair.
		{stored("Connection", "B", "B", "1", "Transfer-Encoding", "chunked", "C", "2"), confirming("C", "3"), list("Connection", "B", "B", "1", "Transfer-Encoding", "chunked", "C", "3")},
		{stored("Connection", "B", "Content-Length", "4"), confirming("Connection", "close", "Content-Length", "0", "B", "2"), list("Connection", "B", "Content-Length", "4", "B", "2")},
		{stored("ETag", `"a"`, "Cache-Control", "max-age=60"), confirming("ETag", `W/"b"`, "Cache-Control", "no-store"), list("ETag", `W/"b"`, "Cache-Control", "no-store")},
		{stored("", "1"), confirming("", "2"), list("", "2")},
		{api.Stored{}, api.Reply{}, nil},
	} {
		for _, now := range append(far(), 0, 4, 5, 6, 1000, maxClock) {
			checkMerge(t, row.s, row.n, now, row.want)
		}
	}
}

// Nothing of a 304 is taken over but its fields.
func TestMergeOfOtherParts(t *testing.T) {
	for _, code := range append(far(), 0, 200, 304, 404) {
		for _, minor := range []int{0, 1, -7} {
			s := stored("A", "1")
			s.Time, s.Reply.Code, s.Reply.Minor, s.Reply.Body = code, code, minor, strings.Repeat("b", minor&3)
			checkMerge(t, s, confirming("B", "2"), 1000, list("A", "1", "B", "2"))
			n := api.Reply{Code: code, Reason: "Other", Minor: minor, Fields: list("B", "2"), Body: "other"}
			checkMerge(t, stored("A", "1"), n, code, list("A", "1", "B", "2"))
			checkMerge(t, api.Stored{}, n, code, list("B", "2"))
		}
	}
}

func TestMergeOfNamesBeside(t *testing.T) {
	names := slices.Concat([]string{""}, beside("Age"), beside("Date"), beside("Expires"), docHops(), docBody())
	s := stored()
	s.Reply.Fields = named(append(names, "Expire\u017f")...)
	checkMerge(t, s, confirming("Expires", "0"), 7, append(without(s.Reply.Fields, "Age", "Date", "Expires"), list("Expires", "0")...))
	for _, name := range append(docBody(), docHops()...) {
		n := confirming()
		n.Fields = named(beside(name)...)
		want := without(n.Fields, append(docBody(), docHops()...)...)
		checkMerge(t, stored(name, "x", "A", "1"), n, 7, append(list(name, "x", "A", "1"), want...))
	}
}

// Whatever a 304 nominates.
func TestMergeOfConnections(t *testing.T) {
	w := newTeller()
	said := []string{"X", "1", "B", "2", "ETag", `"a"`, modified, at(0), "close", "c", "Age", "3", "Date", "d", "Content-Type", "t", "connection", "k", `"x"`, "4"}
	for value := range w.connections {
		for other := range w.connections {
			told := []string{"Connection", value, "ETag", `"b"`, "b", "5", "x", "6", "Age", "7", "last-modified", "m", "CLOSE", "d", "connection", other, "date", "e", `"x"`, "8"}
			s, n := stored(said...), confirming(told...)
			checkMerge(t, s, n, 7, w.merged(s, n))
		}
	}
}

func TestMergeOfShortLists(t *testing.T) {
	w := newTeller()
	for _, said := range shortLists(3, "X", "1", "x", "2", "B", "3", "Age", "9", "Date", "d", "Content-Type", "t") {
		for _, told := range shortLists(2, "X", "4", "B", "5", "b", "6", "age", "0", "DATE", "e", "Content-type", "u", "Connection", "Age", "Content-Length", "7") {
			s, n := stored(), confirming()
			s.Reply.Fields, n.Fields = said, told
			checkMerge(t, s, n, 77, w.merged(s, n))
		}
	}
}

// All of the package holds against the words of the document.
func TestByTheDocument(t *testing.T) {
	w := newTeller()
	r := rand.New(rand.NewSource(19))
	satisfied, selects := 0, 0
	for range 30000 {
		q, s, n := w.mixed(r)
		checkSatisfied(t, q, s.Reply, w.satisfied(q, s.Reply))
		checkNotModified(t, s.Reply, with(s.Reply.Fields, docTold()...))
		checkAsk(t, q, s.Reply, w.asked(q, s.Reply))
		checkSelects(t, s.Reply, n, w.selects(s.Reply, n))
		checkMerge(t, s, n, r.Intn(2000), w.merged(s, n))
		if w.satisfied(q, s.Reply) {
			satisfied++
		}
		if w.selects(s.Reply, n) && len(with(n.Fields, "ETag", modified)) > 0 {
			selects++
		}
	}
	if satisfied < 1000 || selects < 1000 {
		t.Errorf("only %d requests are satisfied, and only %d replies are selected", satisfied, selects)
	}
}

// roomy answers fields with room for more behind them, and all of that room.
func roomy(l []api.Field) ([]api.Field, []api.Field) {
	all := slices.Concat(l, list("room", "1", "room", "2", "room", "3"))
	return all[:len(l)], all
}

// spoil puts something else in the place of all that a list has room for.
func spoil[V any](l []V, other V) {
	l = l[:cap(l)]
	for i := range l {
		l[i] = other
	}
}

// Answers are new: nothing that is done with them changes an argument, and no
// argument has been written to, not even behind its end.
func TestAnswersAreNew(t *testing.T) {
	w := newTeller()
	r := rand.New(rand.NewSource(191))
	for range 5000 {
		q, s, n := w.mixed(r)
		var asked, said, told []api.Field
		q.Fields, asked = roomy(q.Fields)
		s.Reply.Fields, said = roomy(s.Reply.Fields)
		n.Fields, told = roomy(n.Fields)
		beforeAsked, beforeSaid, beforeTold, picks := slices.Clone(asked), slices.Clone(said), slices.Clone(told), slices.Clone(s.Picks)
		other := api.Field{Name: "other", Value: "x"}
		Satisfied(q, s.Reply)
		Selects(s.Reply, n)
		spoil(NotModified(s.Reply).Fields, other)
		spoil(Ask(q, s.Reply).Fields, other)
		m := Merge(s, n, 7)
		spoil(m.Reply.Fields, other)
		spoil(m.Picks, api.Pick{Name: "other"})
		kept(t, asked, beforeAsked)
		kept(t, said, beforeSaid)
		kept(t, told, beforeTold)
		if !slices.Equal(s.Picks, picks) {
			t.Fatalf("%q have become %q", []any{picks}, []any{s.Picks})
		}
	}
}

// Nothing but what the document names tells on an answer.
func TestOfOtherParts(t *testing.T) {
	w := newTeller()
	r := rand.New(rand.NewSource(192))
	for range 10000 {
		q, s, n := w.mixed(r)
		satisfied, selects := Satisfied(q, s.Reply), Selects(s.Reply, n)
		q.Target, q.Minor, q.Body = "*", 7, `If-None-Match: *`
		q.Fields = slices.Concat(list("ETag", `"a"`, "If-Match", "*"), q.Fields, list(modified, at(0), "Cache-Control", "no-cache"))
		s.Reply.Reason, s.Reply.Minor, s.Reply.Body = "Not Modified", 7, `ETag: "a"`
		s.Reply.Fields = slices.Concat(list(noneMatch, "*", "Date", at(0)), s.Reply.Fields, list(since, at(0), "Cache-Control", "no-store"))
		n.Reason, n.Minor, n.Body = "OK", 7, `ETag: "a"`
		n.Fields = slices.Concat(list(noneMatch, "*", "Connection", "close"), n.Fields, list(since, at(0), "Content-Type", "t"))
		checkSatisfied(t, q, s.Reply, satisfied)
		checkSelects(t, s.Reply, n, selects)
	}
}

func TestOfManyAndLong(t *testing.T) {
	const many = 50000
	long := strings.Repeat("a", many)
	tag := `"` + long + `"`
	others := slices.Repeat(list("X", "1", long, long), 1000)
	q := asking()
	q.Fields = append(slices.Clone(others), list(noneMatch, strings.Repeat(`"x", `, many), noneMatch, tag, "Y", long)...)
	r := saying()
	r.Fields = append(slices.Clone(others), list("ETag", tag, "Vary", long, modified, at(900))...)
	checkSatisfied(t, q, r, true)
	checkNotModified(t, r, list("ETag", tag, "Vary", long))
	checkAsk(t, q, r, append(slices.Clone(others), list("Y", long, noneMatch, tag, since, at(900))...))
	checkSelects(t, r, confirming("ETag", "W/"+tag), true)
	checkSelects(t, r, confirming("ETag", tag+" "), false)
	n := confirming()
	n.Fields = append(slices.Repeat(list("Date", "d"), 1000), list("x", long)...)
	checkMerge(t, api.Stored{Reply: r}, n, 7, slices.Concat(without(r.Fields, "X"), n.Fields))
	q.Fields = slices.Repeat(list(noneMatch, tag[:9]), many/10)
	checkSatisfied(t, q, r, false)
}

// P19.5

// A 304 that is merged again at the same time changes nothing, and at another
// one nothing but the time.
func TestMergedAgain(t *testing.T) {
	w := newTeller()
	r := rand.New(rand.NewSource(193))
	for range 20000 {
		_, s, n := w.mixed(r)
		first := Merge(s, n, 77)
		checkMerge(t, first, n, 77, first.Reply.Fields)
		checkMerge(t, first, n, 78, first.Reply.Fields)
	}
}

// A client that sends the tag of a NotModified reply has that reply.
func TestTagOfNotModified(t *testing.T) {
	w := newTeller()
	r := rand.New(rand.NewSource(194))
	tagged := 0
	for range 20000 {
		q, s, _ := w.mixed(r)
		tag, ok := w.tag(NotModified(s.Reply))
		if !ok {
			continue
		}
		tagged++
		q.Fields = append(without(q.Fields, noneMatch), list(noneMatch, written(tag))...)
		for _, method := range []string{"GET", "HEAD"} {
			q.Method = method
			checkSatisfied(t, q, s.Reply, s.Reply.Code == 200)
		}
	}
	if tagged < 1000 {
		t.Errorf("only %d replies have a tag", tagged)
	}
}

// A request from Ask has no conditions but those of the reply, whatever the
// client asked with. Who sends it has the reply, and it stays as it is if it is
// made to ask again.
func TestAskedConditions(t *testing.T) {
	w := newTeller()
	r := rand.New(rand.NewSource(195))
	for range 20000 {
		q, s, _ := w.mixed(r)
		a := Ask(q, s.Reply)
		if l := with(a.Fields, noneMatch, since); !slices.Equal(l, w.asked(api.Request{}, s.Reply)) {
			t.Fatalf("Ask(%q, %q) asks with %q", q.Fields, s.Reply.Fields, l)
		}
		_, tagged := w.tag(s.Reply)
		_, dated := w.when(s.Reply.Fields, modified)
		checkSatisfied(t, a, s.Reply, s.Reply.Code == 200 && (tagged || dated))
		checkAsk(t, a, s.Reply, a.Fields)
	}
}
