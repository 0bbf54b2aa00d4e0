package hops

import (
	"math/rand"
	"regexp"
	"slices"
	"strings"
	"testing"

	"depot/api"
)

// The names that the document lists, in its order.
func docNames() []string {
	return []string{
		"Connection", "Keep-Alive", "Proxy-Connection", "Proxy-Authenticate", "Proxy-Authorization",
		"TE", "Trailer", "Transfer-Encoding", "Upgrade", "Content-Length",
	}
}

// What a list and its elements are, by the words of the document alone.
var (
	isList    = regexp.MustCompile(`(?s)^(?:[^"]|"(?:[^"\\]|\\.)*")*$`)
	elementOf = regexp.MustCompile(`(?s)(?:[^",]|"(?:[^"\\]|\\.)*")+`)
)

// lower makes the letters A to Z of a text small, and no others.
func lower(s string) string {
	b := []byte(s)
	for i, c := range b {
		if c >= 65 && c <= 90 {
			b[i] = c + 32
		}
	}
	return string(b)
}

// isOneOf tells whether a name is one of some others, in any case.
func isOneOf(name string, others []string) bool {
	for _, other := range others {
		if lower(name) == lower(other) {
			return true
		}
	}
	return false
}

// toldNominated answers the elements of all values of Connection by those
// words.
func toldNominated(l []api.Field) []string {
	var names []string
	for _, f := range l {
		if lower(f.Name) != "connection" || !isList.MatchString(f.Value) {
			continue
		}
		for _, e := range elementOf.FindAllString(f.Value, -1) {
			if e = strings.Trim(e, " \t"); e != "" {
				names = append(names, e)
			}
		}
	}
	return names
}

// toldStrip answers by those words the fields that are left.
func toldStrip(l []api.Field) []api.Field {
	names := slices.Concat(docNames(), toldNominated(l))
	var left []api.Field
	for _, f := range l {
		if !isOneOf(f.Name, names) {
			left = append(left, f)
		}
	}
	return left
}

// list makes fields of names and values that take turns.
func list(texts ...string) []api.Field {
	var l []api.Field
	for i := 0; i+1 < len(texts); i += 2 {
		l = append(l, api.Field{Name: texts[i], Value: texts[i+1]})
	}
	return l
}

// says answers fields Connection of some values.
func says(values ...string) []api.Field {
	var l []api.Field
	for _, value := range values {
		l = append(l, api.Field{Name: "Connection", Value: value})
	}
	return l
}

// one answers the text of a single byte.
func one(c int) string {
	return string([]byte{byte(c)})
}

// words answers all texts of at most most bytes of an alphabet.
func words(alphabet string, most int) []string {
	all := []string{""}
	last := all
	for range most {
		var next []string
		for _, w := range last {
			for i := range len(alphabet) {
				next = append(next, w+alphabet[i:i+1])
			}
		}
		all = append(all, next...)
		last = next
	}
	return all
}

// lists answers all lists of at most most of some fields.
func lists(some []api.Field, most int) [][]api.Field {
	all := [][]api.Field{nil}
	last := all
	for range most {
		var next [][]api.Field
		for _, l := range last {
			for _, f := range some {
				next = append(next, append(slices.Clone(l), f))
			}
		}
		all = append(all, next...)
		last = next
	}
	return all
}

// mixed answers fields of any kind: of the names that the document lists and of
// others, with values that nominate either, or that are no lists.
func mixed(r *rand.Rand, most int) []api.Field {
	names := append(docNames(), "connection", "CONNECTION", "a", "A", "b", "X-a", "x-A", "Host", "Close", `"a"`, "", "a b")
	values := []string{"", "close", "a", "A, b", "X-a,a", "te, B", "Connection", `"a"`, `"a, b", x-a`, `"a`, `a, "`, ",, host ,", "a b", "\ta\t"}
	l := make([]api.Field, r.Intn(most+1))
	for i := range l {
		l[i] = api.Field{Name: names[r.Intn(len(names))], Value: values[r.Intn(len(values))]}
	}
	return l
}

func checkHop(t *testing.T, name string, want bool) {
	t.Helper()
	if got := Hop(name); got != want {
		t.Fatalf("Hop(%q) is %v", name, got)
	}
}

func checkNominated(t *testing.T, l []api.Field, want []string) {
	t.Helper()
	before := slices.Clone(l)
	if got := Nominated(l); !slices.Equal(got, want) {
		t.Fatalf("Nominated(%.200q) is %.200q, want %.200q", l, got, want)
	}
	if !slices.Equal(l, before) {
		t.Fatalf("Nominated changed %.200q into %.200q", before, l)
	}
}

func checkStrip(t *testing.T, l []api.Field, want []api.Field) {
	t.Helper()
	before := slices.Clone(l)
	if got := Strip(l); !slices.Equal(got, want) {
		t.Fatalf("Strip(%.200q) is %.200q, want %.200q", l, got, want)
	}
	if !slices.Equal(l, before) {
		t.Fatalf("Strip changed %.200q into %.200q", before, l)
	}
}

// P16.1: Hop

func TestHop(t *testing.T) {
	for _, name := range docNames() {
		for _, written := range []string{name, lower(name), strings.ToUpper(name), lower(name[:1]) + strings.ToUpper(name[1:])} {
			checkHop(t, written, true)
		}
	}
}

func TestHopOfOthers(t *testing.T) {
	for _, name := range []string{
		"", " ", "-", "Keep", "Alive", "KeepAlive", "Keep_Alive", "Keep-Alive-", "Proxy", "Proxy-", "Proxy-Authentication-Info", "Proxy-Status",
		"Authorization", "WWW-Authenticate", "T", "E", "ET", "TEE", "Trailers", "Transfer", "Encoding", "Transfer-Encodings", "Accept-Encoding",
		"Content-Encoding", "Content", "Length", "Content-Length2", "Content-Type", "Content-Location", "Upgrades", "Upgrade-Insecure-Requests",
		"Connect", "Connections", "X-Connection", "Close", "Host", "Date", "Age", "Vary", "Via", "Expect", "Cache-Control", "Pragma", "ETag",
		"Connection, TE", "Connection: close", "Connection\r\n", "\u212aeep-Alive", "Upgr\u00e4de", "T\u0117", "Tra\u0131ler", "Tran\u017ffer-Encoding",
	} {
		checkHop(t, name, false)
	}
}

// Each text that is a byte away from a name: one put in, one left out, one in
// the place of another.
func TestHopOfEachByte(t *testing.T) {
	for _, name := range docNames() {
		for i := range len(name) {
			checkHop(t, name[:i]+name[i+1:], false)
			for c := range 256 {
				other := name[:i] + one(c) + name[i+1:]
				checkHop(t, other, lower(other) == lower(name))
				checkHop(t, name[:i]+one(c)+name[i:], false)
			}
		}
		for c := range 256 {
			checkHop(t, name+one(c), false)
		}
	}
}

func TestHopOfShortAndLongNames(t *testing.T) {
	for _, name := range words("tTeE-c", 4) {
		checkHop(t, name, len(name) == 2 && lower(name) == "te")
	}
	for _, n := range []int{255, 8192, 65536, 1 << 22} {
		checkHop(t, strings.Repeat("T", n), false)
		checkHop(t, "TE"+strings.Repeat(" ", n), false)
	}
}

// P16.1: Nominated

func TestNominated(t *testing.T) {
	for _, row := range []struct {
		l    []api.Field
		want []string
	}{
		{list("Connection", "close, X-a", "x-A", "1", "B", "2"), []string{"close", "X-a"}},
		{nil, nil},
		{[]api.Field{}, nil},
		{list("a", "b"), nil},
		{says(""), nil},
		{says(" \t,, ,"), nil},
		{says("close"), []string{"close"}},
		{says("Keep-Alive"), []string{"Keep-Alive"}},
		{says("a, A,a"), []string{"a", "A", "a"}},
		{says("c", "b", "a, c"), []string{"c", "b", "a", "c"}},
		{says(" \ta\t , ,\tb "), []string{"a", "b"}},
		{says(`"a,b" , c`), []string{`"a,b"`, "c"}},
		{says(`a"b"c,"\","`), []string{`a"b"c`, `"\","`}},
		{says("a b, c=d;e", "*"), []string{"a b", "c=d;e", "*"}},
		{says("\x00,\xff\n, \u00a0"), []string{"\x00", "\xff\n", "\u00a0"}},
		{says("connection"), []string{"connection"}},
	} {
		checkNominated(t, row.l, row.want)
	}
}

// The name of the field may be written in any case, and no other field
// nominates anything.
func TestNominatedByConnectionAlone(t *testing.T) {
	for _, name := range []string{"Connection", "connection", "CONNECTION", "cONNECTION", "ConnectioN"} {
		checkNominated(t, list(name, "b", "x", "c", name, "a"), []string{"b", "a"})
	}
	for _, name := range append(docNames()[1:], "", "Connectio", "Connections", "X-Connection", "Connection ", " Connection", "Connection:", "Vary", "C\u00f6nnection") {
		checkNominated(t, list(name, "a"), nil)
		checkNominated(t, list(name, "a", "Connection", "b", name, "c"), []string{"b"})
	}
}

// A value that is no list nominates nothing, also of what stands ahead of its
// fault, and takes nothing away from the others.
func TestNominatedByNoList(t *testing.T) {
	for _, value := range []string{`"`, `"a`, `a"`, `a,"`, `a, b, "c`, `"a", "b`, `"\"`, `"a\`, `a,"b\"`, `"""`, "\"\x00", `",a`} {
		checkNominated(t, says(value), nil)
		checkNominated(t, says(value, "x, y"), []string{"x", "y"})
		checkNominated(t, says("x, y", value), []string{"x", "y"})
		checkNominated(t, says("x", value, "y", value, "z"), []string{"x", "y", "z"})
	}
	// A quote in one value does not reach into the next.
	checkNominated(t, says(`"a`, `b"`), nil)
	checkNominated(t, says(`"`, "b", `"`), []string{"b"})
}

func TestNominatedByTheDocument(t *testing.T) {
	r := rand.New(rand.NewSource(16))
	all := slices.Concat(words("aB, \t", 6), words("a\"\\, ", 6))
	for range 20000 {
		b := make([]byte, r.Intn(24))
		for i := range b {
			if b[i] = byte(r.Intn(256)); r.Intn(8) > 0 {
				b[i] = "aB-_,, \t\"\\"[r.Intn(10)]
			}
		}
		all = append(all, string(b))
	}
	for _, s := range all {
		for _, l := range [][]api.Field{says(s), list("connection", "x", "b", s, "CONNECTION", s)} {
			checkNominated(t, l, toldNominated(l))
		}
	}
}

func TestNominatedOfEachByte(t *testing.T) {
	for c := range 256 {
		for _, value := range []string{one(c), one(c) + "x", "x" + one(c), "x" + one(c) + "y", one(c) + one(c), one(c) + ",x", "x , " + one(c)} {
			checkNominated(t, says(value, "z"), toldNominated(says(value, "z")))
		}
	}
}

// P16.2: Strip

func TestStrip(t *testing.T) {
	for _, row := range []struct{ l, want []api.Field }{
		{list("Connection", "close, X-a", "x-A", "1", "B", "2"), list("B", "2")},
		{nil, nil},
		{[]api.Field{}, nil},
		{list("a", "1"), list("a", "1")},
		{list("Connection", "close"), nil},
		{list("b", "2", "a", "1", "b", "3", "B", "2"), list("b", "2", "a", "1", "b", "3", "B", "2")},
		{list("x-a", "1", "B", "2", "X-A", "3", "connection", "x-A"), list("B", "2")},
		{list("a", "1", "Connection", "a", "b", "2", "CONNECTION", "c", "c", "3", "d", "4"), list("b", "2", "d", "4")},
		{list("Connection", `a, "b`, "a", "1", "b", "2"), list("a", "1", "b", "2")},
		{list("Connection", `a, "b`, "a", "1", "Connection", "b", "b", "2"), list("a", "1")},
		{list("Connection", `"a"`, "a", "1", `"A"`, "2"), list("a", "1")},
		{list("Connection", "a b", "a", "1", "b", "2", "A B", "3"), list("a", "1", "b", "2")},
		{list("Connection", ", ,", "", "1", " ", "2"), list("", "1", " ", "2")},
		{list("Connection", "Connection, TE", "te", "x", "a", "1"), list("a", "1")},
		{list("Keep-Alive", "a", "Upgrade", "a", "Trailer", "a", "a", "1"), list("a", "1")},
		{list("Vary", "a", "a", "1", "X-Connection", "a"), list("Vary", "a", "a", "1", "X-Connection", "a")},
		{list("Connection", "cache-control", "Cache-Control", "no-store", "ETag", `"x"`), list("ETag", `"x"`)},
		{list("Connection", "close", "Close", "1", "Host", "h"), list("Host", "h")},
		{list("a", "", "b", " \x00\xff ", "a", ""), list("a", "", "b", " \x00\xff ", "a", "")},
	} {
		checkStrip(t, row.l, row.want)
	}
}

// Each name that the document lists goes, in any case and wherever it stands.
func TestStripOfEachName(t *testing.T) {
	for _, name := range docNames() {
		for _, written := range []string{name, lower(name), strings.ToUpper(name)} {
			checkStrip(t, list(written, "", "a", "1", "b", "2"), list("a", "1", "b", "2"))
			checkStrip(t, list("a", "1", written, "0", written, "x", "b", "2"), list("a", "1", "b", "2"))
			checkStrip(t, list("a", "1", "b", "2", written, `"`), list("a", "1", "b", "2"))
			checkStrip(t, list("X-"+written, "1", written+"s", "2"), list("X-"+written, "1", written+"s", "2"))
		}
	}
}

// Nominated names are alike but for the letters A to Z alone.
func TestStripOfEachByte(t *testing.T) {
	for c := range 256 {
		for d := range 256 {
			l := list("Connection", "x"+one(c)+"y", "X"+one(d)+"Y", "1", "b", "2")
			checkStrip(t, l, toldStrip(l))
		}
	}
}

func TestStripByTheDocument(t *testing.T) {
	some := list("Connection", "a, X-b", "connection", "c, a", "CONNECTION", `"a`, "Connection", "", "A", "1", "a", "2", "x-B", "3", "C", "4", "d", "5", "TE", "a")
	for _, l := range lists(some, 4) {
		checkStrip(t, l, toldStrip(l))
	}
	r := rand.New(rand.NewSource(162))
	for range 20000 {
		l := mixed(r, 12)
		checkStrip(t, l, toldStrip(l))
		checkNominated(t, l, toldNominated(l))
	}
}

func TestStripOfManyAndLong(t *testing.T) {
	const many = 50000
	checkStrip(t, list("a", "1", "Connection", strings.Repeat("b,A , ", many), "B", "2", "c", "3"), list("c", "3"))
	checkStrip(t, list("a", "1", "Connection", strings.Repeat("b,a,", many)+`"`, "TE", ""), list("a", "1"))
	long := strings.Repeat("aZ", many)
	checkStrip(t, list("Connection", long, strings.ToUpper(long), "1", long+"a", long), list(long+"a", long))
	f, te := api.Field{Name: "a", Value: "1"}, api.Field{Name: "te", Value: "2"}
	checkStrip(t, slices.Repeat([]api.Field{f, te}, many), slices.Repeat([]api.Field{f}, many))
	var names []string
	var l, kept []api.Field
	for i := range 500 {
		name := "n" + strings.Repeat("x", i)
		names = append(names, name)
		l = append(l, api.Field{Name: name, Value: "1"}, api.Field{Name: name + "y", Value: "2"})
		kept = append(kept, api.Field{Name: name + "y", Value: "2"})
	}
	checkStrip(t, append(l, says(strings.Join(names, ", "))...), kept)
}

// What is answered is new with each call: what is done to it is seen neither in
// the fields nor in another answer.
func TestAnswersAreNew(t *testing.T) {
	for _, l := range [][]api.Field{list("a", "1", "b", "2"), list("Connection", "x, y", "a", "1", "TE", "", "b", "2")} {
		before := slices.Clone(l)
		names, left := Nominated(l), Strip(l)
		told, kept := Nominated(l), Strip(l)
		for i := range names {
			names[i] = "changed"
		}
		for i := range left {
			left[i] = api.Field{Name: "changed", Value: "too"}
		}
		_ = append(left, api.Field{Name: "more"})
		_ = append(names, "more")
		if !slices.Equal(l, before) || !slices.Equal(told, toldNominated(before)) || !slices.Equal(kept, toldStrip(before)) {
			t.Errorf("%q has become %q, %q, %q", before, l, told, kept)
		}
		checkHop(t, "changed", false)
		checkHop(t, "more", false)
		checkStrip(t, l, toldStrip(before))
	}
}

// A list that has room behind its end keeps what stands there.
func TestStripLeavesWhatIsBehind(t *testing.T) {
	whole := list("Connection", "a", "a", "1", "b", "2", "c", "3", "d", "4")
	before := slices.Clone(whole)
	for n := range len(whole) {
		checkStrip(t, whole[:n], toldStrip(before[:n]))
		if !slices.Equal(whole, before) {
			t.Fatalf("Strip of %d changed %q into %q", n, before, whole)
		}
	}
}

// P16.3

func TestStripOfStripped(t *testing.T) {
	r := rand.New(rand.NewSource(163))
	for range 20000 {
		once := Strip(mixed(r, 16))
		checkStrip(t, once, once)
		checkNominated(t, once, nil)
	}
}

// All fields that have another name stay as they are, in order: the value of
// each of them tells where it stood.
func TestStripKeepsOthers(t *testing.T) {
	r := rand.New(rand.NewSource(1631))
	for range 20000 {
		l := mixed(r, 16)
		for i := range l {
			if lower(l[i].Name) != "connection" {
				l[i].Value = strings.Repeat("\t", i) + "v"
			}
		}
		names := Nominated(l)
		rest := Strip(l)
		for _, f := range l {
			if Hop(f.Name) || isOneOf(f.Name, names) {
				continue
			}
			if len(rest) == 0 || rest[0] != f {
				t.Fatalf("Strip(%q) is %q", l, Strip(l))
			}
			rest = rest[1:]
		}
		if len(rest) > 0 {
			t.Fatalf("Strip(%q) is %q", l, Strip(l))
		}
	}
}

// Fields that stay, put in anywhere, take no others away.
func TestStripOfMore(t *testing.T) {
	r := rand.New(rand.NewSource(1632))
	added := list("a", "added", "b", "added", "X-a", "added", "Host", "added", "Vary", "added", "", "added", "New", "added")
	for range 20000 {
		l := mixed(r, 8)
		more := slices.Clone(l)
		for range 1 + r.Intn(4) {
			f := added[r.Intn(len(added))]
			if !isOneOf(f.Name, Nominated(l)) {
				more = slices.Insert(more, r.Intn(len(more)+1), f)
			}
		}
		left := slices.DeleteFunc(Strip(more), func(f api.Field) bool { return f.Value == "added" })
		if want := Strip(l); !slices.Equal(left, want) {
			t.Fatalf("Strip(%q) without what was added is %q, want %q", more, left, want)
		}
		if len(Strip(more))-len(left) != len(more)-len(l) {
			t.Fatalf("Strip(%q) takes away what stays", more)
		}
	}
}
