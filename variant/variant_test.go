package variant

import (
	"bytes"
	"encoding/binary"
	"fmt"
	"math"
	"math/rand"
	"regexp"
	"slices"
	"strings"
	"testing"

	"depot/api"
	"depot/vary"
)

// The limits that the document names, written out, so that a test does not
// lean on the constants that the package uses.
const (
	maxVariants = 4
	maxFields   = 64
	maxMessage  = 65536
	maxClock    = 253402300799
	leastCode   = 200
	mostCode    = 599
)

// part is a part of an encoding by the words of the document: its bytes, or
// what is wrong with it, and whether it is a text.
type part struct {
	b    []byte
	e    api.Errno
	text bool
}

func number(n, width, least, most int, e api.Errno) part {
	if n < least || n > most {
		return part{e: e}
	}
	var b [8]byte
	binary.LittleEndian.PutUint64(b[:], uint64(n))
	return part{b: b[:width]}
}

func text(s string) part {
	if len(s) > maxMessage {
		return part{e: api.ErrLong}
	}
	return part{b: append(number(len(s), 4, 0, maxMessage, api.ErrLong).b, s...), text: true}
}

func flag(is bool) part {
	if is {
		return part{b: []byte{1}}
	}
	return part{b: []byte{0}}
}

// partsOf answers the parts of an encoding in their order.
func partsOf(l []api.Stored) []part {
	all := []part{number(len(l), 1, 0, maxVariants, api.ErrLong)}
	for _, s := range l {
		all = append(all,
			number(s.Time, 5, 0, maxClock, api.ErrRange),
			number(s.Reply.Code, 2, leastCode, mostCode, api.ErrRange),
			number(s.Reply.Minor, 1, 0, 1, api.ErrRange),
			text(s.Reply.Reason),
			number(len(s.Reply.Fields), 1, 0, maxFields, api.ErrLong))
		for _, f := range s.Reply.Fields {
			all = append(all, text(f.Name), text(f.Value))
		}
		all = append(all, text(s.Reply.Body), number(len(s.Picks), 1, 0, maxFields, api.ErrLong))
		for _, p := range s.Picks {
			all = append(all, text(p.Name), flag(p.Has), text(p.Value))
		}
	}
	return all
}

// toldBytes answers by the words of the document what Encode is to answer.
func toldBytes(l []api.Stored) ([]byte, api.Errno) {
	var b []byte
	for _, p := range partsOf(l) {
		if p.e != api.OK {
			return nil, p.e
		}
		b = append(b, p.b...)
	}
	return b, api.OK
}

// cursor reads bytes by the words of the document. What is wrong is a panic.
type cursor struct {
	b []byte
}

func (c *cursor) take(n int) []byte {
	if len(c.b) < n {
		panic(api.ErrShort)
	}
	taken := c.b[:n]
	c.b = c.b[n:]
	return taken
}

func (c *cursor) number(width, least, most int, e api.Errno) int {
	n := 0
	for i, digit := range c.take(width) {
		n += int(digit) << (8 * i)
	}
	if n < least || n > most {
		panic(e)
	}
	return n
}

func (c *cursor) text() string {
	return string(c.take(c.number(4, 0, maxMessage, api.ErrLong)))
}

func (c *cursor) stored() api.Stored {
	var s api.Stored
	s.Time = c.number(5, 0, maxClock, api.ErrForm)
	s.Reply.Code = c.number(2, leastCode, mostCode, api.ErrForm)
	s.Reply.Minor = c.number(1, 0, 1, api.ErrForm)
	s.Reply.Reason = c.text()
	for range c.number(1, 0, maxFields, api.ErrForm) {
		name := c.text()
		s.Reply.Fields = append(s.Reply.Fields, api.Field{Name: name, Value: c.text()})
	}
	s.Reply.Body = c.text()
	for range c.number(1, 0, maxFields, api.ErrForm) {
		name := c.text()
		has := c.number(1, 0, 1, api.ErrForm) == 1
		s.Picks = append(s.Picks, api.Pick{Name: name, Has: has, Value: c.text()})
	}
	return s
}

// toldList answers by the words of the document what Decode is to answer.
func toldList(b []byte) (l []api.Stored, e api.Errno) {
	defer func() {
		if wrong := recover(); wrong != nil {
			l, e = nil, wrong.(api.Errno)
		}
	}()
	c := cursor{b: b}
	for range c.number(1, 0, maxVariants, api.ErrForm) {
		l = append(l, c.stored())
	}
	if len(c.b) > 0 {
		return nil, api.ErrForm
	}
	return l, api.OK
}

// lower makes the letters A to Z of a text small, and no others.
func lower(s string) string {
	b := []byte(s)
	for i, c := range b {
		if c >= 65 && c <= 90 {
			b[i] = c + 32
		}
	}
	return string(b)
}

// blanks is a run of blanks.
var blanks = regexp.MustCompile(`[ \t]+`)

// matches tells by the words of the document whether a request has some picks.
func matches(picks []api.Pick, l []api.Field) bool {
	for _, p := range picks {
		var values []string
		for _, f := range l {
			if lower(f.Name) == lower(p.Name) {
				values = append(values, blanks.ReplaceAllString(f.Value, " "))
			}
		}
		if p.Has != (len(values) > 0) || p.Value != strings.Join(values, ", ") {
			return false
		}
	}
	return true
}

// toldFound answers by the words of the document what Find is to answer.
func toldFound(l []api.Stored, f []api.Field) int {
	for i, s := range l {
		if matches(s.Picks, f) {
			return i
		}
	}
	return -1
}

// toldAdded answers by the words of the document what Add is to answer.
func toldAdded(l []api.Stored, s api.Stored) []api.Stored {
	all := []api.Stored{s}
	for _, old := range l {
		if !slices.Equal(old.Picks, s.Picks) {
			all = append(all, old)
		}
	}
	return all[:min(len(all), maxVariants)]
}

// toldPut answers by the words of the document what Put is to answer.
func toldPut(l []api.Stored, k int, s api.Stored) []api.Stored {
	all := slices.Clone(l)
	if k >= 0 && k < len(l) {
		all[k] = s
	}
	return all
}

// same tells whether two stored replies are the same in every part.
func same(a, b api.Stored) bool {
	return a.Time == b.Time && a.Reply.Code == b.Reply.Code && a.Reply.Minor == b.Reply.Minor &&
		a.Reply.Reason == b.Reply.Reason && a.Reply.Body == b.Reply.Body &&
		slices.Equal(a.Reply.Fields, b.Reply.Fields) && slices.Equal(a.Picks, b.Picks)
}

// deep answers a list that shares nothing with another one.
func deep(l []api.Stored) []api.Stored {
	all := slices.Clone(l)
	for i := range all {
		all[i].Reply.Fields = slices.Clone(all[i].Reply.Fields)
		all[i].Picks = slices.Clone(all[i].Picks)
	}
	return all
}

// short answers the beginning of what a value looks like.
func short(v any) string {
	return fmt.Sprintf("%.400q", fmt.Sprintf("%+v", v))
}

// kept fails if a list is not what it was.
func kept(t *testing.T, l, before []api.Stored) {
	t.Helper()
	if !slices.EqualFunc(l, before, same) {
		t.Fatalf("%s has become %s", short(before), short(l))
	}
}

func checkFind(t *testing.T, l []api.Stored, f []api.Field, want int) {
	t.Helper()
	before, asked := deep(l), slices.Clone(f)
	if k := Find(l, f); k != want {
		t.Fatalf("Find(%s, %.300q) is %d, want %d", short(l), f, k, want)
	}
	kept(t, l, before)
	if !slices.Equal(f, asked) {
		t.Fatalf("%.300q have become %.300q", asked, f)
	}
}

func checkAdd(t *testing.T, l []api.Stored, s api.Stored, want []api.Stored) []api.Stored {
	t.Helper()
	before, one := deep(l), deep([]api.Stored{s})
	got := Add(l, s)
	if !slices.EqualFunc(got, want, same) {
		t.Fatalf("Add(%s, %s) is %s, want %s", short(l), short(s), short(got), short(want))
	}
	kept(t, l, before)
	kept(t, []api.Stored{s}, one)
	return got
}

func checkPut(t *testing.T, l []api.Stored, k int, s api.Stored) {
	t.Helper()
	before, one := deep(l), deep([]api.Stored{s})
	if got, want := Put(l, k, s), toldPut(l, k, s); !slices.EqualFunc(got, want, same) {
		t.Fatalf("Put(%s, %d, %s) is %s, want %s", short(l), k, short(s), short(got), short(want))
	}
	kept(t, l, before)
	kept(t, []api.Stored{s}, one)
}

func checkEncode(t *testing.T, l []api.Stored) ([]byte, api.Errno) {
	t.Helper()
	before := deep(l)
	want, code := toldBytes(l)
	b, e := Encode(l)
	if !bytes.Equal(b, want) || e != code {
		t.Fatalf("Encode(%s) is %.300q, %d, want %.300q, %d", short(l), b, e, want, code)
	}
	kept(t, l, before)
	return b, e
}

func checkDecode(t *testing.T, b []byte) ([]api.Stored, api.Errno) {
	t.Helper()
	before := slices.Clone(b)
	want, code := toldList(b)
	l, e := Decode(b)
	if !slices.EqualFunc(l, want, same) || e != code {
		t.Fatalf("Decode(%.300q) is %s, %d, want %s, %d", b, short(l), e, short(want), code)
	}
	if !bytes.Equal(b, before) {
		t.Fatalf("%.300q have become %.300q", before, b)
	}
	return l, e
}

// checkCode fails if an error is not the one that a row names.
func checkCode(t *testing.T, v any, e, want api.Errno) {
	t.Helper()
	if e != want {
		t.Fatalf("of %s: %d, want %d", short(v), e, want)
	}
}

// list makes fields of names and values that take turns.
func list(texts ...string) []api.Field {
	var l []api.Field
	for i := 0; i+1 < len(texts); i += 2 {
		l = append(l, api.Field{Name: texts[i], Value: texts[i+1]})
	}
	return l
}

// has answers the pick of a name that a request has.
func has(name, value string) api.Pick {
	return api.Pick{Name: name, Has: true, Value: value}
}

// lacks answers the pick of a name that a request does not have.
func lacks(name string) api.Pick {
	return api.Pick{Name: name}
}

// kind answers a stored reply that can be told from others by its time.
func kind(time int, picks ...api.Pick) api.Stored {
	return api.Stored{Time: time, Picks: picks, Reply: api.Reply{
		Code: 200 + time%400, Reason: "Fine", Minor: time % 2, Fields: list("A", "1", "b", ""), Body: "said",
	}}
}

// kinds are stored replies with all of some picks.
func kinds() []api.Stored {
	all := [][]api.Pick{
		nil, {lacks("a")}, {has("a", "")}, {has("a", "1")}, {has("a", "2")}, {has("A", "1")}, {has("b", "1")},
		{has("a", "1"), lacks("b")}, {lacks("b"), has("a", "1")}, {has("a", "1"), has("b", "1")}, {has("a", "1"), has("a", "1")},
		{has("a", "1, 2")}, {has("a", "x y")}, {has("a", "x  y")}, {{Name: "a", Value: "1"}}, {lacks("")}, {has("", "")},
	}
	var l []api.Stored
	for i, picks := range all {
		l = append(l, kind(100+i, picks...))
	}
	return l
}

// asks are fields of requests that have some of these picks.
func asks() [][]api.Field {
	return [][]api.Field{
		nil, list("a", ""), list("a", "1"), list("A", "1"), list("a", "2"), list("b", "1"), list("B", "1", "A", "1"), list("c", "1"),
		list("a", "1", "a", "2"), list("a", "2", "a", "1"), list("a", "1, 2"), list("a", "1", "b", "1", "A", "2"), list("a", " 1"), list("a", "1 "),
		list("a", "x y"), list("a", "x \t y"), list("a", "X y"), list("", ""), list("", "", "a", "1"), list("aa", "1"), list("a", "1, 1"), list("a", "1", "a", "1"),
	}
}

// shortLists answers all lists of up to a number of some stored replies.
func shortLists(most int, some ...api.Stored) [][]api.Stored {
	all := [][]api.Stored{nil}
	for from := 0; most > 0; most-- {
		end := len(all)
		for _, shorter := range all[from:end] {
			for _, s := range some {
				all = append(all, append(slices.Clone(shorter), s))
			}
		}
		from = end
	}
	return all
}

// far are integers far from those that a number may be.
func far() []int {
	l := []int{math.MinInt, math.MinInt + 1, -maxClock, -1, maxClock + 1, math.MaxInt - 1, math.MaxInt}
	for i := range 63 {
		l = append(l, 1<<i, 1<<i-1, -1<<i)
	}
	return l
}

// textOf answers a text of any bytes, often one that another has as well.
func textOf(r *rand.Rand, most int) string {
	if r.Intn(3) > 0 {
		return []string{"", "a", "A", "b", "1", "x y", "\x00", "\x01\x00\x00\x00"}[r.Intn(8)]
	}
	b := make([]byte, r.Intn(most+1))
	for i := range b {
		b[i] = byte(r.Intn(256))
	}
	return string(b)
}

// mixed answers a stored reply of any kind that can be encoded.
func mixed(r *rand.Rand) api.Stored {
	s := api.Stored{Time: r.Intn(maxClock + 1)}
	s.Reply = api.Reply{Code: leastCode + r.Intn(400), Reason: textOf(r, 9), Minor: r.Intn(2), Body: textOf(r, 20)}
	if r.Intn(4) == 0 {
		s.Time = []int{0, 1, 255, 256, maxClock - 1, maxClock}[r.Intn(6)]
	}
	for range r.Intn(5) {
		s.Reply.Fields = append(s.Reply.Fields, api.Field{Name: textOf(r, 5), Value: textOf(r, 9)})
	}
	for range r.Intn(4) {
		s.Picks = append(s.Picks, api.Pick{Name: textOf(r, 5), Has: r.Intn(2) == 0, Value: textOf(r, 9)})
	}
	return s
}

// some answers up to a number of stored replies of any kind.
func some(r *rand.Rand, most int) []api.Stored {
	var l []api.Stored
	for range r.Intn(most + 1) {
		l = append(l, mixed(r))
	}
	return l
}

// P20.1: Find

func TestFind(t *testing.T) {
	one, two, all := kind(1, has("l", "de")), kind(2, has("l", "en"), lacks("m")), kind(3)
	for _, row := range []struct {
		l    []api.Stored
		f    []api.Field
		want int
	}{
		{nil, nil, -1},
		{nil, list("l", "de"), -1},
		{[]api.Stored{}, list("l", "de"), -1},
		{[]api.Stored{all}, nil, 0},
		{[]api.Stored{all}, list("l", "de"), 0},
		{[]api.Stored{one}, nil, -1},
		{[]api.Stored{one, two}, list("L", "de"), 0},
		{[]api.Stored{one, two}, list("L", "en"), 1},
		{[]api.Stored{one, two}, list("L", "DE"), -1},
		{[]api.Stored{one, two}, list("L", "en", "m", ""), -1},
		{[]api.Stored{one, two}, list("l", "de", "l", "en"), -1},
		{[]api.Stored{one, two, all}, list("l", "fr"), 2},
		{[]api.Stored{all, one, two}, list("l", "en"), 0},
		{[]api.Stored{two, one, one, all}, list("l", "de"), 1},
		{[]api.Stored{two, two, two, two, two, two, one, one}, list("l", "de"), 6},
		{[]api.Stored{two, two, two, two, two}, list("l", "de"), -1},
		{[]api.Stored{kind(1, has("l", "de  at"))}, list("l", "de  at"), -1},
		{[]api.Stored{kind(1, has("l", "de at"))}, list("l", "de \t at"), 0},
		{[]api.Stored{kind(1, has("l", "de, at"))}, list("l", "de", "m", "x", "L", "at"), 0},
		{[]api.Stored{{}, one}, list("l", "de"), 0},
		{[]api.Stored{{Picks: []api.Pick{lacks("l")}}, one}, list("l", "de"), 1},
	} {
		checkFind(t, row.l, row.f, row.want)
	}
}

func TestFindOfShortLists(t *testing.T) {
	found := 0
	for _, l := range shortLists(3, kinds()...) {
		for _, f := range asks() {
			want := toldFound(l, f)
			checkFind(t, l, f, want)
			if want > 0 {
				found++
			}
		}
	}
	if found < 1000 {
		t.Errorf("only %d are found behind others", found)
	}
}

// Nothing but the picks tells.
func TestFindOfOtherParts(t *testing.T) {
	r := rand.New(rand.NewSource(20))
	numbers := far()
	for range 2000 {
		l := kinds()
		r.Shuffle(len(l), func(i, j int) { l[i], l[j] = l[j], l[i] })
		for i := range l {
			picks := l[i].Picks
			l[i] = mixed(r)
			l[i].Time, l[i].Reply.Code, l[i].Picks = numbers[r.Intn(50)], numbers[r.Intn(50)], picks
		}
		f := asks()[r.Intn(len(asks()))]
		checkFind(t, l, f, toldFound(l, f))
	}
}

// P20.1: Add

func TestAdd(t *testing.T) {
	a, b, c, d, e := kind(1, has("p", "a")), kind(2, has("p", "b")), kind(3, has("p", "c")), kind(4, lacks("p")), kind(5)
	again, bare := kind(9, has("p", "a")), kind(10)
	for _, row := range []struct {
		l    []api.Stored
		s    api.Stored
		want []api.Stored
	}{
		{nil, a, []api.Stored{a}},
		{[]api.Stored{}, a, []api.Stored{a}},
		{nil, api.Stored{}, []api.Stored{{}}},
		{[]api.Stored{a}, a, []api.Stored{a}},
		{[]api.Stored{a}, again, []api.Stored{again}},
		{[]api.Stored{a}, b, []api.Stored{b, a}},
		{[]api.Stored{b, a}, again, []api.Stored{again, b}},
		{[]api.Stored{a, b, c}, d, []api.Stored{d, a, b, c}},
		{[]api.Stored{a, b, c, d}, e, []api.Stored{e, a, b, c}},
		{[]api.Stored{a, b, c, d}, again, []api.Stored{again, b, c, d}},
		{[]api.Stored{b, c, d, a}, again, []api.Stored{again, b, c, d}},
		{[]api.Stored{a, a, b, a, c, a, d, e}, again, []api.Stored{again, b, c, d}},
		{[]api.Stored{a, b, c, d, e}, api.Stored{}, []api.Stored{{}, a, b, c}},
		{[]api.Stored{e, e, a, e}, bare, []api.Stored{bare, a}},
		// Those that stay may be alike.
		{[]api.Stored{a, a, b}, e, []api.Stored{e, a, a, b}},
		{[]api.Stored{a, a, a, a, a, a}, e, []api.Stored{e, a, a, a}},
		{[]api.Stored{e, e, e, e, e, b}, bare, []api.Stored{bare, b}},
	} {
		checkAdd(t, row.l, row.s, row.want)
	}
}

func TestAddOfShortLists(t *testing.T) {
	for _, l := range shortLists(2, kinds()...) {
		for _, s := range kinds() {
			s.Time = 7
			checkAdd(t, l, s, toldAdded(l, s))
		}
	}
	few := []api.Stored{kind(1), kind(2, has("a", "1")), kind(3, lacks("a"))}
	for _, l := range shortLists(6, few...) {
		for _, s := range few {
			s.Reply.Body = "new"
			checkAdd(t, l, s, toldAdded(l, s))
		}
	}
}

// Picks are the same only if each part of each of them is.
func TestAddOfPicksBeside(t *testing.T) {
	picks := []api.Pick{has("a", "1"), lacks("b"), has("c", "")}
	others := [][]api.Pick{picks[:2], picks[1:], append(slices.Clone(picks), lacks("d")), append(slices.Clone(picks), api.Pick{}), {picks[1], picks[0], picks[2]}}
	for i := range picks {
		for _, other := range []api.Pick{
			{Name: strings.ToUpper(picks[i].Name), Has: picks[i].Has, Value: picks[i].Value},
			{Name: picks[i].Name + "x", Has: picks[i].Has, Value: picks[i].Value},
			{Name: picks[i].Name, Has: !picks[i].Has, Value: picks[i].Value},
			{Name: picks[i].Name, Has: picks[i].Has, Value: picks[i].Value + " "},
			{},
		} {
			beside := slices.Clone(picks)
			beside[i] = other
			others = append(others, beside)
		}
	}
	s := kind(1, picks...)
	for _, other := range others {
		checkAdd(t, []api.Stored{kind(2, other...)}, s, []api.Stored{s, kind(2, other...)})
	}
	checkAdd(t, []api.Stored{kind(2, slices.Clone(picks)...)}, s, []api.Stored{s})
}

// P20.1: Put

func TestPut(t *testing.T) {
	places := append(far(), -5, -4, -3, -2, 0, 1, 2, 3, 4, 5, 6, 7)
	s := kind(9, has("a", "1"))
	l := kinds()[:7]
	for length := range len(l) + 1 {
		for _, k := range places {
			checkPut(t, l[:length], k, s)
			checkPut(t, l[:length], k, api.Stored{})
		}
	}
	for _, k := range places {
		if got := Put(nil, k, s); len(got) != 0 {
			t.Errorf("Put(nil, %d, ..) is %s", k, short(got))
		}
	}
	one, two := kind(1), kind(2, has("a", "1"))
	for k, want := range map[int][]api.Stored{-1: {one, two}, 0: {s, two}, 1: {one, s}, 2: {one, two}} {
		kept(t, Put([]api.Stored{one, two}, k, s), want)
	}
}

// P20.2

func TestEncode(t *testing.T) {
	full := api.Stored{Time: 0x0102030405, Picks: []api.Pick{has("p", ""), {Name: "", Value: "v"}}, Reply: api.Reply{
		Code: 599, Reason: "ab", Fields: list("A", "", "", "c"), Body: "\xff\x00",
	}}
	for _, row := range []struct {
		l    []api.Stored
		want string
	}{
		{nil, "\x00"},
		{[]api.Stored{}, "\x00"},
		{[]api.Stored{{Reply: api.Reply{Code: 200}}}, "\x01" + "\x00\x00\x00\x00\x00" + "\xc8\x00" + "\x00" + "\x00\x00\x00\x00" + "\x00" + "\x00\x00\x00\x00" + "\x00"},
		{[]api.Stored{full}, "\x01" + "\x05\x04\x03\x02\x01" + "\x57\x02" + "\x00" + "\x02\x00\x00\x00ab" +
			"\x02" + "\x01\x00\x00\x00A" + "\x00\x00\x00\x00" + "\x00\x00\x00\x00" + "\x01\x00\x00\x00c" +
			"\x02\x00\x00\x00\xff\x00" +
			"\x02" + "\x01\x00\x00\x00p" + "\x01" + "\x00\x00\x00\x00" + "\x00\x00\x00\x00" + "\x00" + "\x01\x00\x00\x00v"},
		{[]api.Stored{{Time: maxClock, Reply: api.Reply{Code: 404, Minor: 1, Body: "b"}}, {Time: 1, Reply: api.Reply{Code: 300, Reason: "r"}}}, "\x02" +
			"\x7f\x41\xf4\xff\x3a" + "\x94\x01" + "\x01" + "\x00\x00\x00\x00" + "\x00" + "\x01\x00\x00\x00b" + "\x00" +
			"\x01\x00\x00\x00\x00" + "\x2c\x01" + "\x00" + "\x01\x00\x00\x00r" + "\x00" + "\x00\x00\x00\x00" + "\x00"},
	} {
		if b, e := Encode(row.l); string(b) != row.want || e != api.OK {
			t.Errorf("Encode(%s) is %q, %d, want %q", short(row.l), b, e, row.want)
		}
		checkEncode(t, row.l)
		l, e := checkDecode(t, []byte(row.want))
		if e != api.OK || !slices.EqualFunc(l, row.l, same) {
			t.Errorf("Decode(%q) is %s, %d", row.want, short(l), e)
		}
	}
}

// codeOf answers the error of an integer that is or is not in a range.
func codeOf(n, least, most int, e api.Errno) api.Errno {
	if n < least || n > most {
		return e
	}
	return api.OK
}

// Numbers at and about their edges, in the first stored reply and in the last.
func TestEncodeOfNumbers(t *testing.T) {
	all := far()
	for n := -300; n <= 1100; n++ {
		all = append(all, n)
	}
	for n := -3; n <= 3; n++ {
		all = append(all, maxClock+n, maxClock+1<<40+n, 200+1<<16+n, 599+1<<16+n, 1<<40+n, 1<<32+200+n)
	}
	for _, n := range all {
		for at := range 2 {
			time, code, minor := []api.Stored{kind(1), kind(2)}, []api.Stored{kind(1), kind(2)}, []api.Stored{kind(1), kind(2)}
			time[at].Time, code[at].Reply.Code, minor[at].Reply.Minor = n, n, n
			_, e := checkEncode(t, time)
			checkCode(t, time, e, codeOf(n, 0, maxClock, api.ErrRange))
			_, e = checkEncode(t, code)
			checkCode(t, code, e, codeOf(n, leastCode, mostCode, api.ErrRange))
			_, e = checkEncode(t, minor)
			checkCode(t, minor, e, codeOf(n, 0, 1, api.ErrRange))
		}
	}
}

// counts are how many things there may be, or not.
func counts() []int {
	l := []int{127, 128, 255, 256, 257, 260, 319, 320, 321, 512, 65536}
	for n := range 70 {
		l = append(l, n)
	}
	return l
}

func TestEncodeOfCounts(t *testing.T) {
	for _, n := range counts() {
		l := slices.Repeat([]api.Stored{kind(1)}, n)
		_, e := checkEncode(t, l)
		checkCode(t, l, e, codeOf(n, 0, maxVariants, api.ErrLong))
		for at := range 2 {
			fields, picks := []api.Stored{kind(1), kind(2)}, []api.Stored{kind(1), kind(2)}
			fields[at].Reply.Fields = slices.Repeat(list("a", "b"), n)
			picks[at].Picks = slices.Repeat([]api.Pick{has("a", "b")}, n)
			_, e = checkEncode(t, fields)
			checkCode(t, fields, e, codeOf(n, 0, maxFields, api.ErrLong))
			_, e = checkEncode(t, picks)
			checkCode(t, picks, e, codeOf(n, 0, maxFields, api.ErrLong))
		}
	}
}

// withText answers lists of which one text each is a given one.
func withText(s string) [][]api.Stored {
	var all [][]api.Stored
	for at := range 2 {
		for which := range 8 {
			l := deep([]api.Stored{kind(1, has("p", "1"), lacks("q")), kind(2, has("p", "1"), lacks("q"))})
			r := &l[at].Reply
			*[]*string{
				&r.Reason, &r.Body, &r.Fields[0].Name, &r.Fields[0].Value, &r.Fields[1].Value,
				&l[at].Picks[0].Name, &l[at].Picks[0].Value, &l[at].Picks[1].Value,
			}[which] = s
			all = append(all, l)
		}
	}
	return all
}

func TestEncodeOfTexts(t *testing.T) {
	for _, length := range []int{0, 1, 127, 128, 255, 256, 257, maxMessage/8 - 1, maxMessage / 8, maxMessage/8 + 1, maxMessage - 1, maxMessage, maxMessage + 1, 2 * maxMessage, 1 << 20} {
		for _, l := range withText(strings.Repeat("t", length)) {
			b, e := checkEncode(t, l)
			checkCode(t, l, e, codeOf(length, 0, maxMessage, api.ErrLong))
			if e == api.OK {
				checkDecode(t, b)
			}
		}
	}
}

func TestEncodeOfEachByte(t *testing.T) {
	for c := range 256 {
		for _, l := range withText(string([]byte{byte(c)})) {
			b, e := checkEncode(t, l)
			checkCode(t, l, e, api.OK)
			checkDecode(t, b)
		}
	}
}

// wrong makes a part of a stored reply wrong, which is told by an error.
type wrong struct {
	make func(*api.Stored)
	e    api.Errno
}

// wrongs are such in the order of the parts.
func wrongs() []wrong {
	long := strings.Repeat("x", maxMessage+1)
	return []wrong{
		{func(s *api.Stored) { s.Time = -1 }, api.ErrRange},
		{func(s *api.Stored) { s.Reply.Code = 199 }, api.ErrRange},
		{func(s *api.Stored) { s.Reply.Minor = 2 }, api.ErrRange},
		{func(s *api.Stored) { s.Reply.Reason = long }, api.ErrLong},
		{func(s *api.Stored) { s.Reply.Fields = slices.Repeat(s.Reply.Fields, 33) }, api.ErrLong},
		{func(s *api.Stored) { s.Reply.Fields[0].Name = long }, api.ErrLong},
		{func(s *api.Stored) { s.Reply.Fields[0].Value = long }, api.ErrLong},
		{func(s *api.Stored) { s.Reply.Fields[1].Name = long }, api.ErrLong},
		{func(s *api.Stored) { s.Reply.Body = long }, api.ErrLong},
		{func(s *api.Stored) { s.Picks = slices.Repeat(s.Picks, 33) }, api.ErrLong},
		{func(s *api.Stored) { s.Picks[0].Name = long }, api.ErrLong},
		{func(s *api.Stored) { s.Picks[1].Value = long }, api.ErrLong},
	}
}

// Of two faults that of the earlier part is told, also if it is in an earlier
// stored reply, and one of the number of these ahead of all.
func TestEncodeOfTwoFaults(t *testing.T) {
	pair := []api.Stored{kind(1, has("p", "1"), lacks("q")), kind(2, has("p", "1"), lacks("q"))}
	for i, one := range wrongs() {
		for j, other := range wrongs() {
			first := deep(pair)
			one.make(&first[0])
			other.make(&first[1])
			_, e := checkEncode(t, first)
			checkCode(t, first, e, one.e)
			if i < j {
				both := deep(pair)
				one.make(&both[1])
				other.make(&both[1])
				_, e = checkEncode(t, both)
				checkCode(t, both, e, one.e)
			}
		}
		many := deep(slices.Repeat(pair, 3))
		one.make(&many[0])
		_, e := checkEncode(t, many)
		checkCode(t, many, e, api.ErrLong)
		last := deep(slices.Repeat(pair, 2))
		one.make(&last[3])
		_, e = checkEncode(t, last)
		checkCode(t, last, e, one.e)
	}
}

// P20.3

// whole is the encoding of two stored replies with all parts.
func whole() []byte {
	b, _ := toldBytes([]api.Stored{
		{Time: 258, Picks: []api.Pick{has("p", "1"), lacks("q")}, Reply: api.Reply{Code: 404, Reason: "no", Minor: 1, Fields: list("A", "b", "", "cd"), Body: "xyz"}},
		{Time: maxClock, Picks: []api.Pick{has("", "")}, Reply: api.Reply{Code: 599, Fields: list("E", "")}},
	})
	return b
}

func TestDecode(t *testing.T) {
	// What is ahead of the Reason of a single stored reply, and of its Fields.
	const ahead = "\x01" + "\x00\x00\x00\x00\x00" + "\xc8\x00" + "\x01"
	const named = ahead + "\x00\x00\x00\x00"
	most := strings.Repeat("x", maxMessage)
	for _, row := range []struct {
		b    string
		want api.Errno
	}{
		{"", api.ErrShort},
		{"\x00", api.OK},
		{"\x00\x00", api.ErrForm},
		{"\x00\xff", api.ErrForm},
		{"\x01", api.ErrShort},
		{"\x04", api.ErrShort},
		{"\x05", api.ErrForm},
		{"\xff", api.ErrForm},
		{"\x01\xff\xff\xff\xff", api.ErrShort},
		{"\x01\xff\xff\xff\xff\xff", api.ErrForm},
		{"\x01\x7f\x41\xf4\xff\x3a", api.ErrShort},
		{"\x01\x80\x41\xf4\xff\x3a", api.ErrForm},
		{"\x01\x00\x00\x00\x00\x00\xc7", api.ErrShort},
		{"\x01\x00\x00\x00\x00\x00\xc7\x00", api.ErrForm},
		{"\x01\x00\x00\x00\x00\x00\xc8\x00", api.ErrShort},
		{"\x01\x00\x00\x00\x00\x00\x57\x02", api.ErrShort},
		{"\x01\x00\x00\x00\x00\x00\x58\x02", api.ErrForm},
		{"\x01\x00\x00\x00\x00\x00\xc8\x00\x02", api.ErrForm},
		{ahead, api.ErrShort},
		{ahead + "\x00\x00\x00", api.ErrShort},
		{ahead + "\x01\x00\x00\x00", api.ErrShort},
		{ahead + "\xff\xff\xff", api.ErrShort},
		{ahead + "\x01\x00\x01\x00", api.ErrLong},
		{ahead + "\xff\xff\xff\xff", api.ErrLong},
		{ahead + "\x01\x00\x01\x00x" + most, api.ErrLong},
		{ahead + "\x00\x00\x01\x00" + most[1:], api.ErrShort},
		{ahead + "\x00\x00\x01\x00" + most, api.ErrShort},
		{ahead + "\x00\x00\x01\x00" + most + "\x00\x00\x00\x00\x00\x00", api.OK},
		{named, api.ErrShort},
		{named + "\x40", api.ErrShort},
		{named + "\x41", api.ErrForm},
		{named + "\xff", api.ErrForm},
		{named + "\x01\x00\x00\x00\x00\x01\x00\x01\x00", api.ErrLong},
		{named + "\x00\x00\x00\x00\x00\x40", api.ErrShort},
		{named + "\x00\x00\x00\x00\x00\x41", api.ErrForm},
		{named + "\x00\x00\x00\x00\x00\x00", api.OK},
		{named + "\x00\x00\x00\x00\x00\x00\x00", api.ErrForm},
		{named + "\x00\x01\x00\x01\x00", api.ErrLong},
		{named + "\x00\x00\x00\x00\x00\x01\x00\x00\x00\x00", api.ErrShort},
		{named + "\x00\x00\x00\x00\x00\x01\x00\x00\x00\x00\x02", api.ErrForm},
		{named + "\x00\x00\x00\x00\x00\x01\x00\x00\x00\x00\x01\x00\x00\x00\x00", api.OK},
		{named + "\x00\x00\x00\x00\x00\x01\x00\x00\x00\x00\x00\x01\x00\x00\x00v", api.OK},
	} {
		_, e := checkDecode(t, []byte(row.b))
		checkCode(t, row.b, e, row.want)
	}
	checkDecode(t, nil)
	_, e := checkDecode(t, whole())
	checkCode(t, whole(), e, api.OK)
}

// Bytes that end early are short, and bytes behind the end are too many.
func TestDecodeOfEachLength(t *testing.T) {
	b := whole()
	for n := range b {
		_, e := checkDecode(t, b[:n])
		checkCode(t, b[:n], e, api.ErrShort)
	}
	for c := range 256 {
		_, e := checkDecode(t, append(whole(), byte(c)))
		checkCode(t, c, e, api.ErrForm)
		_, e = checkDecode(t, append(append(whole(), byte(c)), b...))
		checkCode(t, c, e, api.ErrForm)
	}
}

// Any byte, in any place, also if the bytes end early behind it.
func TestDecodeOfEachByte(t *testing.T) {
	codes := map[api.Errno]int{}
	for i := range whole() {
		for c := range 256 {
			b := whole()
			b[i] = byte(c)
			_, e := checkDecode(t, b)
			codes[e]++
			_, e = checkDecode(t, b[:i+1])
			codes[e]++
		}
	}
	for _, e := range []api.Errno{api.OK, api.ErrShort, api.ErrLong, api.ErrForm} {
		if codes[e] < 200 {
			t.Errorf("only %d of error %d", codes[e], e)
		}
	}
}

// broken is where in an encoding which bytes are wrong, and by what error that
// is told.
type broken struct {
	at int
	b  []byte
	e  api.Errno
}

// breaks answers what is wrong in the place of each part, in their order.
func breaks(l []api.Stored) []broken {
	var all []broken
	at := 0
	for _, p := range partsOf(l) {
		ones := broken{at, bytes.Repeat([]byte{255}, len(p.b)), api.ErrForm}
		if p.text {
			ones.b, ones.e = ones.b[:4], api.ErrLong
		}
		all = append(all, ones)
		at += len(p.b)
	}
	return all
}

// Of two faults that of the earlier part is told, and that bytes are left over
// or end is told later than either.
func TestDecodeOfTwoFaults(t *testing.T) {
	l, _ := toldList(whole())
	for i, one := range breaks(l) {
		for _, other := range breaks(l)[i:] {
			b := append(whole(), 0)
			copy(b[one.at:], one.b)
			copy(b[other.at:], other.b)
			for _, end := range []int{one.at + len(one.b), len(b) - 1, len(b)} {
				_, e := checkDecode(t, b[:end])
				checkCode(t, b[:end], e, one.e)
			}
		}
	}
}

func TestDecodeOfNumbers(t *testing.T) {
	bare, _ := toldBytes([]api.Stored{{Reply: api.Reply{Code: 200}}})
	for n := range 1 << 16 {
		b := slices.Clone(bare)
		binary.LittleEndian.PutUint16(b[6:], uint16(n))
		_, e := checkDecode(t, b)
		checkCode(t, b, e, codeOf(n, leastCode, mostCode, api.ErrForm))
	}
	for _, n := range append(far(), maxClock-1, maxClock, maxClock+1, 1<<40-1) {
		if n < 0 || n >= 1<<40 {
			continue
		}
		b := slices.Concat(bare[:1], number(n, 5, 0, 1<<40-1, 0).b, bare[6:])
		_, e := checkDecode(t, b)
		checkCode(t, b, e, codeOf(n, 0, maxClock, api.ErrForm))
	}
}

// As many things as are told, one fewer, or one more.
func TestDecodeOfCounts(t *testing.T) {
	reply, _ := toldBytes([]api.Stored{kind(1)})
	bare := "\x00\x00\x00\x00\x00" + "\xc8\x00" + "\x01" + "\x00\x00\x00\x00"
	for told := range 256 {
		for _, n := range []int{told - 1, told, told + 1} {
			n = max(n, 0)
			variants := string([]byte{byte(told)}) + strings.Repeat(string(reply[1:]), n)
			fields := "\x01" + bare + string([]byte{byte(told)}) + strings.Repeat("\x01\x00\x00\x00a\x00\x00\x00\x00", n) + "\x00\x00\x00\x00" + "\x00"
			picks := "\x01" + bare + "\x00" + "\x00\x00\x00\x00" + string([]byte{byte(told)}) + strings.Repeat("\x01\x00\x00\x00a\x01\x00\x00\x00\x00", n)
			_, e := checkDecode(t, []byte(variants))
			if told > maxVariants || n == told {
				checkCode(t, variants, e, codeOf(told, 0, maxVariants, api.ErrForm))
			}
			for _, s := range []string{fields, picks} {
				_, e = checkDecode(t, []byte(s))
				if told > maxFields || n == told {
					checkCode(t, s, e, codeOf(told, 0, maxFields, api.ErrForm))
				}
			}
		}
	}
}

// The length of each text told otherwise than it is.
func TestDecodeOfLengths(t *testing.T) {
	for _, told := range []uint32{0, 1, 2, 3, 4, 255, 256, maxMessage - 1, maxMessage, maxMessage + 1, maxMessage + 2, 1 << 24, 1<<31 - 1, 1 << 31, 1<<32 - 1} {
		for _, length := range []int{0, 1, 3, 256, maxMessage, maxMessage + 1} {
			for _, l := range withText(strings.Repeat("t", min(length, maxMessage))) {
				b, _ := toldBytes(l)
				if length == 0 {
					b = bytes.Replace(b, []byte("\x00\x00\x00\x00"), binary.LittleEndian.AppendUint32(nil, told), 1)
				} else {
					at := bytes.Index(b, []byte(strings.Repeat("t", min(length, maxMessage))))
					binary.LittleEndian.PutUint32(b[at-4:], told)
				}
				checkDecode(t, b)
			}
		}
	}
}

// All short bytes of some that may begin an encoding.
func TestDecodeOfShortBytes(t *testing.T) {
	few := []byte{0, 1, 2, 200, 255}
	var tell func(b []byte, most int)
	tell = func(b []byte, most int) {
		checkDecode(t, b)
		for _, c := range few {
			if most > 0 {
				tell(append(slices.Clip(b), c), most-1)
			}
		}
	}
	tell(nil, 6)
	tell([]byte("\x01\x00\x00\x00\x00\x00\xc8\x00\x00"), 6)
	tell([]byte("\x01\x00\x00\x00\x00\x00\xc8\x00\x00\x00\x00\x00\x00\x00\x00\x00\x00\x00"), 6)
}

// All of the package holds against the words of the document.
func TestByTheDocument(t *testing.T) {
	r := rand.New(rand.NewSource(201))
	codes := map[api.Errno]int{}
	for range 10000 {
		l := some(r, maxVariants+1)
		s := mixed(r)
		if len(l) > 0 && r.Intn(2) == 0 {
			s.Picks = slices.Clone(l[r.Intn(len(l))].Picks)
		}
		checkAdd(t, l, s, toldAdded(l, s))
		checkPut(t, l, r.Intn(8)-2, s)
		f := list(textOf(r, 5), textOf(r, 5), textOf(r, 5), textOf(r, 5))
		checkFind(t, l, f, toldFound(l, f))
		b, _ := checkEncode(t, l)
		for range 1 + r.Intn(2) {
			if len(b) > 0 {
				b[r.Intn(len(b))] = byte(r.Intn(256) >> r.Intn(8))
			}
		}
		_, e := checkDecode(t, b)
		codes[e]++
	}
	for _, e := range []api.Errno{api.OK, api.ErrShort, api.ErrLong, api.ErrForm} {
		if codes[e] < 200 {
			t.Errorf("only %d of error %d", codes[e], e)
		}
	}
}

// spoil puts something else in the place of all that a list has room for.
func spoil[V any](l []V, other V) {
	l = l[:cap(l)]
	for i := range l {
		l[i] = other
	}
}

// spoilParts does so with the lists of a stored reply.
func spoilParts(s api.Stored) {
	spoil(s.Reply.Fields, api.Field{Name: "other"})
	spoil(s.Picks, api.Pick{Name: "other"})
}

// roomy answers a list that has room for more behind it, as have its parts, and
// all of that room.
func roomy(l []api.Stored) ([]api.Stored, []api.Stored) {
	all := deep(append(slices.Clone(l), kind(1), kind(2)))
	for i, s := range l {
		all[i].Reply.Fields = append(slices.Clone(s.Reply.Fields), list("room", "1", "room", "2")...)[:len(s.Reply.Fields)]
		all[i].Picks = append(slices.Clone(s.Picks), lacks("room"), has("room", "1"))[:len(s.Picks)]
	}
	return all[:len(l)], all
}

// behind answers all that the lists of stored replies have room for.
func behind(l []api.Stored) []api.Stored {
	all := deep(l)
	for i, s := range l {
		all[i].Reply.Fields = slices.Clone(s.Reply.Fields[:cap(s.Reply.Fields)])
		all[i].Picks = slices.Clone(s.Picks[:cap(s.Picks)])
	}
	return all
}

// Answers are new: nothing that is done with one of their lists changes another
// one or an argument, and no argument has been written to behind its end.
func TestAnswersAreNew(t *testing.T) {
	r := rand.New(rand.NewSource(202))
	for range 2000 {
		l, all := roomy(some(r, maxVariants))
		one, room := roomy([]api.Stored{mixed(r)})
		s := one[0]
		before, was := behind(all), behind(room)
		b, _ := Encode(l)
		decoded, _ := Decode(b)
		Find(l, list("a", "1"))
		for _, answer := range [][]api.Stored{Add(l, s), Put(l, 0, s), Put(l, 1, s), Put(l, -1, s), Put(l, 9, s), decoded} {
			for i := range answer {
				others := deep(answer)
				spoilParts(answer[i])
				kept(t, answer[i+1:], others[i+1:])
			}
			spoil(answer, api.Stored{Time: -7})
		}
		spoil(b, 77)
		kept(t, behind(all), before)
		kept(t, behind(room), was)
	}
}

// Nothing that an answer was made from can change it any more.
func TestAnswersStay(t *testing.T) {
	r := rand.New(rand.NewSource(203))
	for range 2000 {
		l, s := some(r, maxVariants), mixed(r)
		added, put, same := Add(l, s), Put(l, 0, s), Put(l, -1, s)
		b, _ := Encode(l)
		was, from := slices.Clone(b), deep(l)
		read, _ := Decode(b)
		wantAdded, wantPut := deep(toldAdded(l, s)), deep(toldPut(l, 0, s))
		for _, old := range append(slices.Clone(l), s) {
			spoilParts(old)
		}
		spoil(l, api.Stored{})
		kept(t, added, wantAdded)
		kept(t, put, wantPut)
		kept(t, same, from)
		if !bytes.Equal(b, was) {
			t.Fatalf("%q have become %q", was, b)
		}
		spoil(b, 77)
		kept(t, read, from)
	}
}

func TestOfManyAndLong(t *testing.T) {
	const many = 20000
	long := strings.Repeat("\xff", maxMessage)
	great := api.Stored{Time: maxClock, Reply: api.Reply{Code: 599, Reason: long, Minor: 1, Fields: slices.Repeat(list(long, long), maxFields), Body: long}}
	great.Picks = slices.Repeat([]api.Pick{has(long, long)}, maxFields)
	b, e := checkEncode(t, []api.Stored{great, kind(1)})
	checkCode(t, len(b), e, api.OK)
	_, e = checkDecode(t, b)
	checkCode(t, len(b), e, api.OK)
	_, e = checkDecode(t, b[:len(b)-1])
	checkCode(t, len(b), e, api.ErrShort)

	l := slices.Repeat([]api.Stored{kind(1, has("a", "1"))}, many)
	l[many-1] = kind(2, has("a", "2"))
	checkFind(t, l, list("a", "2"), many-1)
	checkFind(t, l, slices.Repeat(list("a", "3"), 9), -1)
	checkAdd(t, l, kind(3, has("a", "1")), []api.Stored{kind(3, has("a", "1")), l[many-1]})
	checkAdd(t, l, kind(3), append([]api.Stored{kind(3)}, l[:3]...))
	checkPut(t, l, many-1, kind(3))
	checkPut(t, l, many, kind(3))
	_, e = checkEncode(t, l)
	checkCode(t, many, e, api.ErrLong)
	_, e = checkDecode(t, make([]byte, 1<<20))
	checkCode(t, 1<<20, e, api.ErrForm)
}

// P20.4

// What was encoded comes back, and encoded again it is the same bytes.
func TestListsComeBack(t *testing.T) {
	r := rand.New(rand.NewSource(204))
	for range 10000 {
		l := some(r, maxVariants)
		b, e := Encode(l)
		checkCode(t, l, e, api.OK)
		back, e := Decode(b)
		checkCode(t, l, e, api.OK)
		kept(t, back, l)
		again, e := Encode(back)
		checkCode(t, l, e, api.OK)
		if !bytes.Equal(again, b) {
			t.Fatalf("%q, decoded and encoded, is %q", b, again)
		}
	}
}

// Whatever bytes can be decoded are those of the list.
func TestBytesComeBack(t *testing.T) {
	r := rand.New(rand.NewSource(205))
	read := 0
	for range 20000 {
		b, _ := toldBytes(some(r, maxVariants))
		if len(b) > 1 {
			b[1+r.Intn(len(b)-1)] ^= 1 << r.Intn(8)
		}
		l, e := Decode(b)
		if e != api.OK {
			continue
		}
		read++
		if again, e := Encode(l); !bytes.Equal(again, b) || e != api.OK {
			t.Fatalf("%q, decoded and encoded, is %q, %d", b, again, e)
		}
	}
	if read < 2000 {
		t.Errorf("only %d were decoded", read)
	}
}

// names answers lists of names that replies vary by.
func names() [][]string {
	return [][]string{nil, {"a"}, {"b"}, {"a", "b"}, {"b", "c"}, {"a", "b", "c"}}
}

// asked answers fields of any request.
func asked(r *rand.Rand) []api.Field {
	var l []api.Field
	for range r.Intn(4) {
		name := []string{"a", "A", "b", "c"}[r.Intn(4)]
		l = append(l, api.Field{Name: name, Value: []string{"", "1", "2", " 1  2 "}[r.Intn(4)]})
	}
	return l
}

// One that is added is found first by its own request, and by any other that
// matches it. Others are found as before, unless they were the last of too many.
func TestAddedIsFound(t *testing.T) {
	r := rand.New(rand.NewSource(206))
	var l []api.Stored
	found, dropped := 0, 0
	for time := range 30000 {
		if r.Intn(20) == 0 {
			l = nil
		}
		own, other := asked(r), asked(r)
		s := kind(time, vary.Picks(names()[r.Intn(len(names()))], own)...)
		added := Add(l, s)
		checkFind(t, added, own, 0)
		was, is := Find(l, other), Find(added, other)
		switch {
		case matches(s.Picks, other):
			checkFind(t, added, other, 0)
		case was < 0:
			checkFind(t, added, other, -1)
		case is < 0:
			dropped++
			if len(added) != maxVariants || slices.ContainsFunc(added, func(a api.Stored) bool { return a.Time == l[was].Time }) {
				t.Fatalf("%q finds nothing any more in %s", other, short(added))
			}
		default:
			found++
			kept(t, added[is:is+1], l[was:was+1])
		}
		l = added
	}
	if found < 1000 || dropped < 1000 {
		t.Errorf("only %d are found as before, and only %d are dropped", found, dropped)
	}
}

// Five with different picks, one after the other, leave the last four.
func TestFiveAdded(t *testing.T) {
	var l []api.Stored
	for i := range 5 {
		l = Add(l, kind(i, has("p", strings.Repeat("x", i))))
	}
	var times []int
	for _, s := range l {
		times = append(times, s.Time)
	}
	if !slices.Equal(times, []int{4, 3, 2, 1}) {
		t.Errorf("the times are %v", times)
	}
}
