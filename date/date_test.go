package date

import (
	"fmt"
	"math"
	"math/big"
	"math/rand"
	"strings"
	"testing"
	"time"
)

// The numbers that the document names, written out, so that a test does not
// lean on the constants that the package uses.
const (
	docErrDate = 24
	maxClock   = 253402300799
	oldEnd     = 3155759999 // the last second of 2069
	dayEnd     = 2932896    // the last day of 9999
	day        = 86400
)

// The three forms, as the library of the language is told them.
const (
	formatForm = "Mon, 02 Jan 2006 15:04:05 GMT"
	oldForm    = "Monday, 02-Jan-06 15:04:05 GMT"
	plainForm  = "Mon Jan _2 15:04:05 2006"
)

// form is one of the three: what writes it, up to which time, and how the
// library is told it.
type form struct {
	name    string
	write   func(t int) string
	last    int
	library string
}

func forms() []form {
	return []form{
		{"Format", Format, maxClock, formatForm},
		{"Old", Old, oldEnd, oldForm},
		{"Plain", Plain, maxClock, plainForm},
	}
}

// toldWrite answers a time in a form as the library writes it.
func (f form) toldWrite(t int) string {
	if t < 0 || t > f.last {
		return ""
	}
	return time.Unix(int64(t), 0).UTC().Format(f.library)
}

// toldParse answers the time that a text denotes as the library reads it, if
// the library writes that time exactly so. It takes the two digits 69 for 1969.
func toldParse(s string) (int, bool) {
	for _, f := range forms() {
		at, err := time.Parse(f.library, s)
		if err != nil {
			continue
		}
		if f.library == oldForm && at.Year() == 1969 {
			at = at.AddDate(100, 0, 0)
		}
		if t := int(at.Unix()); f.toldWrite(t) == s && s != "" {
			return t, true
		}
	}
	return 0, false
}

// checkParse holds Parse against the library. It tells whether s is a date.
func checkParse(t *testing.T, s string) bool {
	t.Helper()
	want, ok := toldParse(s)
	n, e := Parse(s)
	if ok && (n != want || e != 0) {
		t.Errorf("Parse(%q) is %d, %d, want %d", s, n, e, want)
	}
	if !ok && (n != 0 || e != docErrDate) {
		t.Errorf("Parse(%q) is %d, %d, want none", s, n, e)
	}
	return ok
}

// checkNone asks for ErrDate.
func checkNone(t *testing.T, s string) {
	t.Helper()
	if n, e := Parse(s); n != 0 || e != docErrDate {
		t.Errorf("Parse(%q) is %d, %d, want none", s, n, e)
	}
}

// length answers how many days a month has, by the words of the document.
func length(y, m int) int {
	switch m {
	case 4, 6, 9, 11:
		return 30
	case 2:
		if y%400 == 0 || y%100 != 0 && y%4 == 0 {
			return 29
		}
		return 28
	}
	return 31
}

// far are integers far from those that a day or a time has.
func far() []int {
	l := []int{math.MinInt, math.MinInt + 1, math.MaxInt - 1, math.MaxInt}
	for i := 42; i < 63; i++ {
		l = append(l, 1<<i, 1<<i-1, -1<<i)
	}
	return l
}

// moments are times of all kinds: the edges of each form, the ends of months
// and years around which the calendar changes, and many others.
func moments() []int {
	l := []int{0, 1, 59, 60, 61, 3599, 3600, 3601, day - 1, day, day + 1, 784111777,
		oldEnd - day, oldEnd - 1, oldEnd, oldEnd + 1, maxClock - day, maxClock - 1, maxClock}
	for _, y := range []int{1970, 1971, 1972, 1999, 2000, 2001, 2038, 2068, 2069, 2070, 2099,
		2100, 2101, 2399, 2400, 3000, 4000, 9600, 9900, 9996, 9999} {
		for m := 1; m <= 12; m++ {
			first := int(time.Date(y, time.Month(m), 1, 0, 0, 0, 0, time.UTC).Unix())
			last := first + length(y, m)*day - 1
			l = append(l, first, first+9*day-1, first+9*day, last-day+1, last)
		}
	}
	r := rand.New(rand.NewSource(7))
	for range 3000 {
		l = append(l, r.Intn(maxClock+1), r.Intn(oldEnd+1))
	}
	return l
}

// P7.1: Days and Civil

func TestDaysAndCivil(t *testing.T) {
	for _, x := range []struct{ y, m, d, n int }{
		{1970, 1, 1, 0},
		{1970, 1, 2, 1},
		{1970, 1, 31, 30},
		{1970, 2, 1, 31},
		{1970, 2, 28, 58},
		{1970, 3, 1, 59},
		{1970, 12, 31, 364},
		{1971, 1, 1, 365},
		{1972, 2, 28, 788},
		{1972, 2, 29, 789},
		{1972, 3, 1, 790},
		{1972, 12, 31, 1095},
		{1973, 1, 1, 1096},
		{1994, 11, 6, 9075},
		{2000, 1, 1, 10957},
		{2000, 2, 28, 11015},
		{2000, 2, 29, 11016},
		{2000, 3, 1, 11017},
		{2026, 11, 18, 20775},
		{2100, 2, 28, 47540},
		{2100, 3, 1, 47541},
		{9999, 12, 30, dayEnd - 1},
		{9999, 12, 31, dayEnd},
	} {
		if n, ok := Days(x.y, x.m, x.d); n != x.n || !ok {
			t.Errorf("Days(%d, %d, %d) is %d, %v, want %d", x.y, x.m, x.d, n, ok, x.n)
		}
		if y, m, d, ok := Civil(x.n); y != x.y || m != x.m || d != x.d || !ok {
			t.Errorf("Civil(%d) is %d, %d, %d, %v", x.n, y, m, d, ok)
		}
	}
}

// It is P7.4 too: Days and Civil are inverses, and go up by one from day to day.
func TestEachDay(t *testing.T) {
	want := 0
	for y := 1970; y <= 9999; y++ {
		for m := 1; m <= 12; m++ {
			for d := 1; d <= length(y, m); d++ {
				if n, ok := Days(y, m, d); n != want || !ok {
					t.Fatalf("Days(%d, %d, %d) is %d, %v, want %d", y, m, d, n, ok, want)
				}
				if cy, cm, cd, ok := Civil(want); cy != y || cm != m || cd != d || !ok {
					t.Fatalf("Civil(%d) is %d, %d, %d, %v", want, cy, cm, cd, ok)
				}
				if w := Weekday(want); w != (want+4)%7 {
					t.Fatalf("Weekday(%d) is %d", want, w)
				}
				want++
			}
		}
	}
	if want != dayEnd+1 {
		t.Errorf("%d days", want)
	}
}

func TestDaysOfFebruary(t *testing.T) {
	for y := 1960; y <= 10010; y++ {
		inside := y >= 1970 && y <= 9999
		_, has28 := Days(y, 2, 28)
		_, has29 := Days(y, 2, 29)
		leap := inside && time.Date(y, 3, 0, 0, 0, 0, 0, time.UTC).Day() == 29
		if has28 != inside || has29 != leap {
			t.Errorf("February 28 and 29 of %d are %v, %v", y, has28, has29)
		}
	}
	for y, want := range map[int]bool{1972: true, 1973: false, 1974: false, 2000: true,
		2096: true, 2100: false, 2200: false, 2300: false, 2400: true, 9600: true, 9900: false, 9996: true} {
		if n, ok := Days(y, 2, 29); ok != want || !ok && n != 0 {
			t.Errorf("February 29 of %d is %d, %v", y, n, ok)
		}
	}
}

// checkNoDay asks for 0 and false.
func checkNoDay(t *testing.T, y, m, d int) {
	t.Helper()
	if n, ok := Days(y, m, d); n != 0 || ok {
		t.Errorf("Days(%d, %d, %d) is %d, %v", y, m, d, n, ok)
	}
}

func TestDaysOfNoDate(t *testing.T) {
	for y := 1970; y <= 9999; y++ {
		for m := 1; m <= 12; m++ {
			for _, d := range []int{-31, -1, 0, length(y, m) + 1, 32, 33, 61} {
				checkNoDay(t, y, m, d)
			}
		}
		for _, m := range []int{-12, -1, 0, 13, 14, 24} {
			checkNoDay(t, y, m, 1)
		}
	}
}

func TestDaysOfYearsBeyond(t *testing.T) {
	years := append(far(), -2000, -1970, -1, 0, 1, 4, 70, 94, 400, 1600, 1900, 1904, 1960, 1968,
		1969, 10000, 10001, 10004, 12000, 11970, 1970+1<<32)
	for _, y := range years {
		for m := 1; m <= 12; m++ {
			for _, d := range []int{1, 28, 29, 31} {
				checkNoDay(t, y, m, d)
			}
		}
	}
}

func TestDaysFarOff(t *testing.T) {
	for _, n := range append(far(), 1<<32+1, 1<<32, -1) {
		checkNoDay(t, n, 1, 1)
		checkNoDay(t, 2000, n, 1)
		checkNoDay(t, 2000, 1, n)
		checkNoDay(t, 2000, 2, n)
		checkNoDay(t, n, n, n)
	}
}

func TestCivilOfNoDay(t *testing.T) {
	for _, n := range append(far(), -1000000, -366, -365, -2, -1, dayEnd+1, dayEnd+2, dayEnd+365,
		2*dayEnd, 1<<31, 1<<32, 1<<32+1) {
		if y, m, d, ok := Civil(n); y != 0 || m != 0 || d != 0 || ok {
			t.Errorf("Civil(%d) is %d, %d, %d, %v", n, y, m, d, ok)
		}
	}
}

// P7.1: Weekday

func TestWeekday(t *testing.T) {
	for n, want := range map[int]int{0: 4, 1: 5, 2: 6, 3: 0, 4: 1, 5: 2, 6: 3, 7: 4, 10: 0,
		9075: 0, 20775: 3, dayEnd: 5, dayEnd + 1: 6, dayEnd + 2: 0} {
		if got := Weekday(n); got != want {
			t.Errorf("Weekday(%d) is %d, want %d", n, got, want)
		}
	}
}

func TestWeekdayOfNegativeNumbers(t *testing.T) {
	for n := -1; n > -1000; n-- {
		if got := Weekday(n); got != 0 {
			t.Errorf("Weekday(%d) is %d", n, got)
		}
	}
}

// Numbers of days that are beyond the last date still have their place.
func TestWeekdayFarOff(t *testing.T) {
	for _, from := range append(far(), dayEnd+10) {
		for n := from - 8; n <= from && n < from+1; n++ {
			sum := new(big.Int).Add(big.NewInt(int64(n)), big.NewInt(4))
			want := int(sum.Mod(sum, big.NewInt(7)).Int64())
			if n < 0 {
				want = 0
			}
			if got := Weekday(n); got != want {
				t.Errorf("Weekday(%d) is %d, want %d", n, got, want)
			}
			if n == math.MaxInt {
				break
			}
		}
	}
}

// P7.2

func TestForms(t *testing.T) {
	for _, x := range []struct {
		t                  int
		format, old, plain string
	}{
		{784111777, "Sun, 06 Nov 1994 08:49:37 GMT", "Sunday, 06-Nov-94 08:49:37 GMT", "Sun Nov  6 08:49:37 1994"},
		{0, "Thu, 01 Jan 1970 00:00:00 GMT", "Thursday, 01-Jan-70 00:00:00 GMT", "Thu Jan  1 00:00:00 1970"},
		{1, "Thu, 01 Jan 1970 00:00:01 GMT", "Thursday, 01-Jan-70 00:00:01 GMT", "Thu Jan  1 00:00:01 1970"},
		{day - 1, "Thu, 01 Jan 1970 23:59:59 GMT", "Thursday, 01-Jan-70 23:59:59 GMT", "Thu Jan  1 23:59:59 1970"},
		{day, "Fri, 02 Jan 1970 00:00:00 GMT", "Friday, 02-Jan-70 00:00:00 GMT", "Fri Jan  2 00:00:00 1970"},
		{9*day - 1, "Fri, 09 Jan 1970 23:59:59 GMT", "Friday, 09-Jan-70 23:59:59 GMT", "Fri Jan  9 23:59:59 1970"},
		{9 * day, "Sat, 10 Jan 1970 00:00:00 GMT", "Saturday, 10-Jan-70 00:00:00 GMT", "Sat Jan 10 00:00:00 1970"},
		{951782400, "Tue, 29 Feb 2000 00:00:00 GMT", "Tuesday, 29-Feb-00 00:00:00 GMT", "Tue Feb 29 00:00:00 2000"},
		{1794000000, "Fri, 06 Nov 2026 21:20:00 GMT", "Friday, 06-Nov-26 21:20:00 GMT", "Fri Nov  6 21:20:00 2026"},
		{oldEnd, "Tue, 31 Dec 2069 23:59:59 GMT", "Tuesday, 31-Dec-69 23:59:59 GMT", "Tue Dec 31 23:59:59 2069"},
		{oldEnd + 1, "Wed, 01 Jan 2070 00:00:00 GMT", "", "Wed Jan  1 00:00:00 2070"},
		{4107542399, "Sun, 28 Feb 2100 23:59:59 GMT", "", "Sun Feb 28 23:59:59 2100"},
		{4107542400, "Mon, 01 Mar 2100 00:00:00 GMT", "", "Mon Mar  1 00:00:00 2100"},
		{maxClock, "Fri, 31 Dec 9999 23:59:59 GMT", "", "Fri Dec 31 23:59:59 9999"},
	} {
		if got := Format(x.t); got != x.format {
			t.Errorf("Format(%d) is %q, want %q", x.t, got, x.format)
		}
		if got := Old(x.t); got != x.old {
			t.Errorf("Old(%d) is %q, want %q", x.t, got, x.old)
		}
		if got := Plain(x.t); got != x.plain {
			t.Errorf("Plain(%d) is %q, want %q", x.t, got, x.plain)
		}
	}
}

func TestFormsOfNoTime(t *testing.T) {
	for _, f := range forms() {
		for _, n := range append(far(), -1000000, -day, -60, -2, -1, maxClock+1, maxClock+2, maxClock+day) {
			if got := f.write(n); got != "" {
				t.Errorf("%s(%d) is %q", f.name, n, got)
			}
		}
	}
	for _, n := range []int{oldEnd + 1, oldEnd + 2, oldEnd + day, oldEnd + 365*day, 1 << 32, maxClock - 1, maxClock} {
		if got := Old(n); got != "" {
			t.Errorf("Old(%d) is %q", n, got)
		}
	}
}

// Every second of a day, in each form.
func TestEachSecond(t *testing.T) {
	for second := range day {
		hour, minute := second/3600, second/60%60
		want := fmt.Sprintf("%02d:%02d:%02d", hour, minute, second%60)
		if got := Format(second); got != "Thu, 01 Jan 1970 "+want+" GMT" {
			t.Fatalf("Format(%d) is %q", second, got)
		}
		if got := Old(second); got != "Thursday, 01-Jan-70 "+want+" GMT" {
			t.Fatalf("Old(%d) is %q", second, got)
		}
		if got := Plain(second); got != "Thu Jan  1 "+want+" 1970" {
			t.Fatalf("Plain(%d) is %q", second, got)
		}
	}
}

// Every day of the years that Old tells.
func TestEachDayOfOld(t *testing.T) {
	for n := range 100*365 + 25 {
		for _, f := range forms() {
			at := n*day + n*7919%day
			if got, want := f.write(at), f.toldWrite(at); got != want {
				t.Fatalf("%s(%d) is %q, want %q", f.name, at, got, want)
			}
		}
	}
}

func TestFormsByTheLibrary(t *testing.T) {
	for _, f := range forms() {
		for _, at := range moments() {
			if got, want := f.write(at), f.toldWrite(at); got != want {
				t.Errorf("%s(%d) is %q, want %q", f.name, at, got, want)
			}
		}
	}
}

// P7.3

func TestParse(t *testing.T) {
	for s, want := range map[string]int{
		"Sun, 06 Nov 1994 08:49:37 GMT":     784111777,
		"Sunday, 06-Nov-94 08:49:37 GMT":    784111777,
		"Sun Nov  6 08:49:37 1994":          784111777,
		"Thu, 01 Jan 1970 00:00:00 GMT":     0,
		"Thursday, 01-Jan-70 00:00:00 GMT":  0,
		"Thu Jan  1 00:00:00 1970":          0,
		"Fri, 31 Dec 9999 23:59:59 GMT":     maxClock,
		"Fri Dec 31 23:59:59 9999":          maxClock,
		"Tuesday, 31-Dec-69 23:59:59 GMT":   oldEnd,
		"Tue, 31 Dec 2069 23:59:59 GMT":     oldEnd,
		"Tue Dec 31 23:59:59 2069":          oldEnd,
		"Friday, 31-Dec-99 23:59:59 GMT":    946684799,
		"Saturday, 01-Jan-00 00:00:00 GMT":  946684800,
		"Tuesday, 29-Feb-00 00:00:00 GMT":   951782400,
		"Tue, 29 Feb 2000 00:00:00 GMT":     951782400,
		"Mon, 01 Mar 2100 00:00:00 GMT":     4107542400,
		"Wednesday, 09-Dec-70 00:00:00 GMT": 29548800,
		"Fri Jan  9 23:59:59 1970":          9*day - 1,
		"Sat Jan 10 00:00:00 1970":          9 * day,
	} {
		if n, e := Parse(s); n != want || e != 0 {
			t.Errorf("Parse(%q) is %d, %d, want %d", s, n, e, want)
		}
	}
}

func TestParseOfNoDate(t *testing.T) {
	for _, s := range []string{
		"", " ", "0", "784111777", "GMT", "Sun", "Sunday", "now", ",", "\x00",
		// another day, or none, in the day's name
		"Mon, 06 Nov 1994 08:49:37 GMT", "Monday, 06-Nov-94 08:49:37 GMT", "Mon Nov  6 08:49:37 1994",
		"Xyz, 06 Nov 1994 08:49:37 GMT", "Xyzday, 06-Nov-94 08:49:37 GMT", "Xyz Nov  6 08:49:37 1994",
		"Sunday, 06 Nov 1994 08:49:37 GMT", "Sun, 06-Nov-94 08:49:37 GMT", "Sunday Nov  6 08:49:37 1994",
		"Sund, 06 Nov 1994 08:49:37 GMT", "06 Nov 1994 08:49:37 GMT", ", 06-Nov-94 08:49:37 GMT",
		"06-Nov-94 08:49:37 GMT", " Nov  6 08:49:37 1994", "Nov  6 08:49:37 1994",
		// other letters
		"sun, 06 Nov 1994 08:49:37 GMT", "SUN, 06 Nov 1994 08:49:37 GMT", "Sun, 06 nov 1994 08:49:37 GMT",
		"Sun, 06 NOV 1994 08:49:37 GMT", "Sun, 06 Nov 1994 08:49:37 gmt", "Sun nov  6 08:49:37 1994",
		"sunday, 06-Nov-94 08:49:37 GMT", "Sun, 06 November 1994 08:49:37 GMT", "Sun, 06 Now 1994 08:49:37 GMT",
		// another number of digits
		"Sun, 6 Nov 1994 08:49:37 GMT", "Sun,  6 Nov 1994 08:49:37 GMT", "Sun, 006 Nov 1994 08:49:37 GMT",
		"Sunday, 6-Nov-94 08:49:37 GMT", "Sunday,  6-Nov-94 08:49:37 GMT", "Sunday, 06-Nov-1994 08:49:37 GMT",
		"Sun Nov 06 08:49:37 1994", "Sun Nov 6 08:49:37 1994", "Sun Nov 6  08:49:37 1994", "Sun Nov   08:49:37 1994",
		"Sun, 06 Nov 94 08:49:37 GMT", "Sun, 06 Nov 01994 08:49:37 GMT", "Sun Nov  6 08:49:37 94",
		"Sun, 06 Nov 1994 8:49:37 GMT", "Sun, 06 Nov 1994  8:49:37 GMT", "Sun, 06 Nov 1994 08:49 GMT",
		"Sun, 06 Nov 1994 08:49:37.0 GMT", "Sun, 06 Nov 1994 08:49:7 GMT", "Sun, 06 Nov 1994 08:49: 7 GMT",
		// numbers out of their ranges
		"Sun, 06 Nov 1994 24:49:37 GMT", "Sun, 06 Nov 1994 08:60:37 GMT", "Sun, 06 Nov 1994 08:49:60 GMT",
		"Sat, 31 Dec 2016 23:59:60 GMT", "Mon, 07 Nov 1994 24:00:00 GMT", "Sun, 06 Nov 1994 -8:49:37 GMT",
		"Sunday, 06-Nov-94 24:49:37 GMT", "Sunday, 06-Nov-94 08:60:37 GMT", "Sunday, 06-Nov-94 08:49:60 GMT",
		"Sun Nov  6 24:49:37 1994", "Sun Nov  6 08:60:37 1994", "Sun Nov  6 08:49:60 1994",
		"Sun, 00 Nov 1994 08:49:37 GMT", "Thu, 31 Nov 1994 08:49:37 GMT", "Wed, 32 Oct 1994 08:49:37 GMT",
		"Mon, 29 Feb 1971 00:00:00 GMT", "Mon, 29 Feb 2100 00:00:00 GMT", "Wed, 30 Feb 2000 00:00:00 GMT",
		"Wednesday, 29-Feb-01 00:00:00 GMT", "Mon Feb 29 00:00:00 2100", "Sun Nov  0 08:49:37 1994",
		// years beyond
		"Wed, 31 Dec 1969 23:59:59 GMT", "Wednesday, 31-Dec-69 23:59:59 GMT", "Wed Dec 31 23:59:59 1969",
		"Sat, 01 Jan 0000 00:00:00 GMT", "Mon, 01 Jan 1900 00:00:00 GMT", "Wednesday, 01-Jan-70 00:00:00 GMT",
		"Sat, 01 Jan 10000 00:00:00 GMT", "Sat Jan  1 00:00:00 10000",
		// other zones and marks
		"Sun, 06 Nov 1994 08:49:37 UTC", "Sun, 06 Nov 1994 08:49:37 +0000", "Sun, 06 Nov 1994 08:49:37 Z",
		"Sun, 06 Nov 1994 08:49:37", "Sun, 06 Nov 1994 08:49:37 ", "Sun Nov  6 08:49:37 1994 GMT",
		"Sun, 06-Nov-1994 08:49:37 GMT", "Sunday, 06 Nov 94 08:49:37 GMT", "Sun 06 Nov 1994 08:49:37 GMT",
		"Sun,06 Nov 1994 08:49:37 GMT", "Sun,  06 Nov 1994 08:49:37 GMT", "Sun, Nov  6 08:49:37 1994",
		"1994-11-06T08:49:37Z", "Sun Nov  6 08:49:37 GMT 1994", "Nov 6, 1994",
		// longer ones
		" Sun, 06 Nov 1994 08:49:37 GMT", "Sun, 06 Nov 1994 08:49:37 GMT ", "Sun, 06 Nov 1994 08:49:37 GMT\n",
		"\tSunday, 06-Nov-94 08:49:37 GMT", "Sun Nov  6 08:49:37 1994\x00", " Sun Nov  6 08:49:37 1994",
		"Sun, 06 Nov 1994 08:49:37 GMTSun, 06 Nov 1994 08:49:37 GMT", "xSun Nov  6 08:49:37 1994",
		"Sun, 06 Nov 1994 08:49:37 GMT, Sun, 06 Nov 1994 08:49:37 GMT", `"Sun, 06 Nov 1994 08:49:37 GMT"`,
		// bytes that look like digits, letters or spaces
		"Sun, 0\uff16 Nov 1994 08:49:37 GMT", "Sun,\u00a006 Nov 1994 08:49:37 GMT", "Sun, 06 \u039dov 1994 08:49:37 GMT",
		strings.Repeat("\xff", 29), strings.Repeat(" ", 24), strings.Repeat("0", 30), strings.Repeat("9", 33),
		strings.Repeat(" ", 100000), strings.Repeat("Sun, 06 Nov 1994 08:49:37 GMT", 10000),
	} {
		checkNone(t, s)
	}
}

// Each form of each of some times takes no other day's name.
func TestParseOfEachDayName(t *testing.T) {
	names := []string{"Sunday", "Monday", "Tuesday", "Wednesday", "Thursday", "Friday", "Saturday"}
	for n := range 14 {
		at := 784111777 + n*day
		for i, name := range names {
			for _, s := range []string{
				name[:3] + Format(at)[3:],
				name + Old(at)[strings.IndexByte(Old(at), ','):],
				name[:3] + Plain(at)[3:],
			} {
				if ok := checkParse(t, s); ok != (i == n%7) {
					t.Errorf("%q is a date: %v", s, ok)
				}
			}
		}
	}
}

// written answers the forms of a day that the month may not have, on the day of
// the week on which it would be. Two digits tell no year beyond 2069.
func written(y int, m time.Month, d int) []string {
	name, short := time.Date(y, m, d, 0, 0, 0, 0, time.UTC).Weekday().String(), m.String()[:3]
	l := []string{
		fmt.Sprintf("%.3s, %02d %s %d 01:02:03 GMT", name, d, short, y),
		fmt.Sprintf("%.3s %s %2d 01:02:03 %d", name, short, d, y),
	}
	if y <= 2069 {
		l = append(l, fmt.Sprintf("%s, %02d-%s-%02d 01:02:03 GMT", name, d, short, y%100))
	}
	return l
}

// Each day of up to two digits in each month.
func TestParseOfEachDayNumber(t *testing.T) {
	for _, y := range []int{1970, 1972, 1999, 2000, 2069, 2100, 9999} {
		for m := 1; m <= 12; m++ {
			for d := range 100 {
				for _, s := range written(y, time.Month(m), d) {
					if ok := checkParse(t, s); ok != (d >= 1 && d <= length(y, m)) {
						t.Errorf("%q is a date: %v", s, ok)
					}
				}
			}
		}
	}
}

// All two digits for the hour, the minute and the second.
func TestParseOfEachClock(t *testing.T) {
	for _, s := range []string{"Sun, 06 Nov 1994 08:49:37 GMT", "Sunday, 06-Nov-94 08:49:37 GMT",
		"Sun Nov  6 08:49:37 1994"} {
		at := strings.Index(s, "08:49:37")
		for part, most := range []int{23, 59, 59} {
			from := at + 3*part
			for n := range 100 {
				x := s[:from] + fmt.Sprintf("%02d", n) + s[from+2:]
				if ok := checkParse(t, x); ok != (n <= most) {
					t.Errorf("%q is a date: %v", x, ok)
				}
			}
		}
	}
}

// All years of four and of two digits.
func TestParseOfEachYear(t *testing.T) {
	for y := range 10000 {
		at := time.Date(y, 6, 15, 12, 30, 45, 0, time.UTC)
		for _, library := range []string{formatForm, plainForm} {
			if ok := checkParse(t, at.Format(library)); ok != (y >= 1970) {
				t.Errorf("%q is a date: %v", at.Format(library), ok)
			}
		}
		if ok := checkParse(t, at.Format(oldForm)); y >= 1970 && y <= 2069 && !ok {
			t.Errorf("%q is no date", at.Format(oldForm))
		}
	}
}

// Texts that differ from a form by one byte: changed, left out, doubled, put in
// or swapped with the next one.
func TestParseOfOtherBytes(t *testing.T) {
	for _, at := range []int{0, 784111777, 951782400, 29548800, oldEnd, maxClock} {
		for _, f := range forms() {
			s := f.write(at)
			for i := range len(s) {
				for c := range 256 {
					checkParse(t, s[:i]+string([]byte{byte(c)})+s[i+1:])
					checkNone(t, s[:i]+string([]byte{byte(c)})+s[i:])
				}
				checkNone(t, s[:i]+s[i+1:])
				checkParse(t, s[:i]+s[i+1:]+s[i:i+1])
				if i > 0 {
					checkParse(t, s[:i-1]+s[i:i+1]+s[i-1:i]+s[i+1:])
				}
			}
		}
	}
}

// What stands ahead of a form's last bytes, and behind any of its bytes.
func TestParseOfPieces(t *testing.T) {
	for _, at := range []int{0, 784111777, 29548800, oldEnd} {
		for _, f := range forms() {
			s := f.write(at)
			for i := range len(s) {
				checkNone(t, s[:i])
				checkNone(t, s[len(s)-i:])
				checkNone(t, s[i:]+s)
				checkNone(t, s+s[:i+1])
			}
		}
	}
}

// Texts made of the parts of all forms, as they come.
func TestParseOfMixedParts(t *testing.T) {
	r := rand.New(rand.NewSource(73))
	pick := func(l ...string) string { return l[r.Intn(len(l))] }
	found := 0
	for range 200000 {
		s := pick("Sun", "Sunday") + pick(", ", ", ", " ", ",") + pick("06", "Nov", " 6", "6") +
			pick(" ", "-", "  ") + pick("Nov", "06", " 6") + pick(" ", "-") + pick("1994", "94", "08:49:37") +
			" " + pick("08:49:37", "1994", "94") + pick(" GMT", "", " ")
		if checkParse(t, s) {
			found++
		}
	}
	if found == 0 {
		t.Error("no date among them")
	}
}

// P7.4

func TestParseInvertsTheForms(t *testing.T) {
	for _, f := range forms() {
		for _, at := range moments() {
			s := f.write(at)
			n, e := Parse(s)
			if at > f.last {
				if s != "" || n != 0 || e != docErrDate {
					t.Errorf("%s(%d) is %q, and Parse of it %d, %d", f.name, at, s, n, e)
				}
				continue
			}
			if n != at || e != 0 {
				t.Errorf("Parse(%q) is %d, %d, want %d", s, n, e, at)
			}
			if again := f.write(n); again != s {
				t.Errorf("%s of the time of %q is %q", f.name, s, again)
			}
		}
	}
}

// Times that are far apart by a step which meets all days of the week and all
// places of the clock.
func TestParseInvertsTheFormsOverAllYears(t *testing.T) {
	for at := 0; at <= maxClock; at += 5000011 {
		for _, f := range forms() {
			if at > f.last {
				continue
			}
			if n, e := Parse(f.write(at)); n != at || e != 0 {
				t.Fatalf("Parse of %s(%d) is %d, %d", f.name, at, n, e)
			}
		}
	}
}

func TestConsecutiveSecondsAreRead(t *testing.T) {
	for _, from := range []int{0, 951782400 - 100, 784111777, oldEnd - 200, maxClock - 200} {
		for at := from; at <= from+200; at++ {
			for _, f := range forms() {
				if n, e := Parse(f.write(at)); at <= f.last && (n != at || e != 0) {
					t.Errorf("Parse of %s(%d) is %d, %d", f.name, at, n, e)
				}
			}
		}
	}
}
