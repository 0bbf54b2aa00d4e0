package flash

import (
	"bytes"
	"fmt"
	"math"
	"math/rand"
	"slices"
	"testing"

	"depot/api"
)

// The limits that the document names, written out, so that a test does not
// lean on the constants that the package uses.
const (
	mostBlocks = 16
	mostPages  = 16
	leastSize  = 64
	mostSize   = 512
	mostLife   = 1 << 20
)

// What may be done to a device.
const (
	programmed = "programmed"
	erased     = "erased"
	armed      = "armed"
	restarted  = "restarted"
)

// step is what was done to a device that did not refuse it.
type step struct {
	kind        string
	b, p        int
	data        []byte
	after, keep int
	torn        bool
}

// told is a device by the words of the document: all that is so of it follows
// from what was done to it since New.
type told struct {
	c    api.Device
	done []step
}

// reckon puts a Program or an Erase behind what was done, and answers whether it
// is torn.
func (d *told) reckon(s step) bool {
	count := 1
	for _, old := range slices.Backward(d.done) {
		if old.kind == armed {
			s.torn, s.keep = count == old.after, old.keep
		}
		if old.kind == armed || old.kind == restarted {
			break
		}
		count++
	}
	d.done = append(d.done, s)
	return s.torn
}

func (d *told) down() bool {
	for _, s := range slices.Backward(d.done) {
		if s.torn || s.kind == restarted {
			return s.torn
		}
	}
	return false
}

// of answers what was done with a block.
func (d *told) of(b int) []step {
	var l []step
	for _, s := range d.done {
		if s.b == b && (s.kind == programmed || s.kind == erased) {
			l = append(l, s)
		}
	}
	return l
}

func (d *told) next(b int) int {
	n := 0
	for _, s := range d.of(b) {
		switch {
		case s.kind == programmed:
			n++
		case s.torn:
			n = d.c.Pages
		default:
			n = 0
		}
	}
	return n
}

func (d *told) wear(b int) int {
	n := 0
	for _, s := range d.of(b) {
		if s.kind == erased && !s.torn {
			n++
		}
	}
	return n
}

func (d *told) bad(b int) bool {
	return d.wear(b) >= d.c.Life
}

// image answers the bytes that are to be in a page after a Program.
func (s step) image() []byte {
	image := slices.Clone(s.data)
	for i := range image {
		if s.torn && i >= s.keep {
			image[i] = 255
		}
	}
	return image
}

func (d *told) page(b, p int) []byte {
	image := bytes.Repeat([]byte("\xff"), d.c.Size)
	for _, s := range d.of(b) {
		switch {
		case s.kind == programmed && s.p == p:
			image = s.image()
		case s.kind == erased && (!s.torn || p < s.keep):
			image = bytes.Repeat([]byte("\xff"), d.c.Size)
		}
	}
	return image
}

func (d *told) bytes() int {
	n := 0
	for _, s := range d.done {
		if s.kind == programmed {
			n += d.c.Size
		}
	}
	return n
}

func (d *told) tornPages() []api.Torn {
	var l []api.Torn
	for _, s := range d.done {
		if s.kind == programmed && s.torn {
			l = append(l, api.Torn{Block: s.b, Page: s.p, Meant: s.data, Image: s.image()})
		}
	}
	return l
}

func (d *told) exists(b, p int) bool {
	return b >= 0 && b < d.c.Blocks && p >= 0 && p < d.c.Pages
}

func (d *told) program(b, p int, data []byte) api.Errno {
	switch {
	case d.down():
		return api.ErrDown
	case !d.exists(b, p) || len(data) != d.c.Size:
		return api.ErrArg
	case d.bad(b):
		return api.ErrBad
	case p != d.next(b):
		return api.ErrOrder
	case d.reckon(step{kind: programmed, b: b, p: p, data: slices.Clone(data)}):
		return api.ErrDown
	}
	return api.OK
}

func (d *told) read(b, p int) ([]byte, api.Errno) {
	switch {
	case d.down():
		return nil, api.ErrDown
	case !d.exists(b, p):
		return nil, api.ErrArg
	}
	return d.page(b, p), api.OK
}

func (d *told) erase(b int) api.Errno {
	switch {
	case d.down():
		return api.ErrDown
	case !d.exists(b, 0):
		return api.ErrArg
	case d.bad(b):
		return api.ErrBad
	case d.reckon(step{kind: erased, b: b}):
		return api.ErrDown
	case d.bad(b):
		return api.ErrBad
	}
	return api.OK
}

func (d *told) arm(after, keep int) {
	if !d.down() {
		d.done = append(d.done, step{kind: armed, after: after, keep: keep})
	}
}

func (d *told) restart() {
	d.done = append(d.done, step{kind: restarted})
}

// pair is a device and what it is to be. What is done is done to both.
type pair struct {
	t *testing.T
	f *Flash
	d told
}

// pairOf answers a new pair.
func pairOf(t *testing.T, c api.Device) *pair {
	t.Helper()
	f, e := New(c)
	if f == nil || e != api.OK {
		t.Fatalf("New(%+v) is %v, %d", c, f, e)
	}
	return &pair{t, f, told{c: c}}
}

func (x *pair) program(b, p int, data []byte) api.Errno {
	x.t.Helper()
	before := slices.Clone(data)
	want := x.d.program(b, p, data)
	e := x.f.Program(b, p, data)
	if e != want {
		x.t.Fatalf("Program(%d, %d, %d bytes) is %d, want %d, after %s", b, p, len(data), e, want, x.past())
	}
	if !bytes.Equal(data, before) {
		x.t.Fatalf("Program has made %q of %q", data, before)
	}
	return e
}

func (x *pair) erase(b int) api.Errno {
	x.t.Helper()
	want := x.d.erase(b)
	e := x.f.Erase(b)
	if e != want {
		x.t.Fatalf("Erase(%d) is %d, want %d, after %s", b, e, want, x.past())
	}
	return e
}

func (x *pair) read(b, p int) api.Errno {
	x.t.Helper()
	want, code := x.d.read(b, p)
	got, e := x.f.Read(b, p)
	if !bytes.Equal(got, want) || e != code {
		x.t.Fatalf("Read(%d, %d) is %q, %d, want %q, %d, after %s", b, p, got, e, want, code, x.past())
	}
	return e
}

func (x *pair) arm(after, keep int) {
	x.d.arm(after, keep)
	x.f.Arm(after, keep)
}

func (x *pair) restart() {
	x.d.restart()
	x.f.Restart()
}

// past tells what was done last.
func (x *pair) past() string {
	s := ""
	for _, one := range x.d.done[max(0, len(x.d.done)-12):] {
		s += fmt.Sprintf("%s(%d %d, %d %d, torn %t) ", one.kind, one.b, one.p, one.after, one.keep, one.torn)
	}
	return s
}

// status fails if the device is not as it is to be, but for its pages.
func (x *pair) status() {
	x.t.Helper()
	for b := -2; b < x.d.c.Blocks+2; b++ {
		next, wear, bad := 0, 0, false
		if x.d.exists(b, 0) {
			next, wear, bad = x.d.next(b), x.d.wear(b), x.d.bad(b)
		}
		if x.f.Next(b) != next || x.f.Wear(b) != wear || x.f.Bad(b) != bad {
			x.t.Fatalf("block %d: Next %d, Wear %d, Bad %t, want %d, %d, %t, after %s", b, x.f.Next(b), x.f.Wear(b), x.f.Bad(b), next, wear, bad, x.past())
		}
	}
	if x.f.Bytes() != x.d.bytes() || x.f.Down() != x.d.down() || x.f.Config() != x.d.c {
		x.t.Fatalf("Bytes %d, Down %t, Config %+v, want %d, %t, %+v, after %s", x.f.Bytes(), x.f.Down(), x.f.Config(), x.d.bytes(), x.d.down(), x.d.c, x.past())
	}
	if got, want := x.f.Torn(), x.d.tornPages(); !sameTorn(got, want) {
		x.t.Fatalf("Torn is %v, want %v, after %s", got, want, x.past())
	}
}

// pages fails if a page is not as it is to be.
func (x *pair) pages() {
	x.t.Helper()
	for b := -1; b <= x.d.c.Blocks; b++ {
		for p := -1; p <= x.d.c.Pages; p++ {
			x.read(b, p)
		}
	}
}

// whole fails if anything is not as it is to be, now and after a Restart, as
// none can read the pages of a device that is down.
func (x *pair) whole() {
	x.t.Helper()
	x.status()
	x.pages()
	if x.d.down() {
		x.restart()
		x.status()
		x.pages()
	}
}

func sameTorn(a, b []api.Torn) bool {
	return slices.EqualFunc(a, b, func(s, t api.Torn) bool {
		return s.Block == t.Block && s.Page == t.Page && bytes.Equal(s.Meant, t.Meant) && bytes.Equal(s.Image, t.Image)
	})
}

// checkCode fails if an error is not the one that a row names.
func checkCode(t *testing.T, v any, e, want api.Errno) {
	t.Helper()
	if e != want {
		t.Fatalf("of %v: %d, want %d", v, e, want)
	}
}

// small is the smallest device there is, but for its Life.
func small(life int) api.Device {
	return api.Device{Blocks: 2, Pages: 4, Size: 64, Life: life}
}

// corners are devices of the least and the most of each number.
func corners() []api.Device {
	var l []api.Device
	for _, blocks := range []int{2, 3, mostBlocks} {
		for _, pages := range []int{4, mostPages} {
			for _, size := range []int{leastSize, 65, mostSize} {
				for _, life := range []int{1, 2, mostLife} {
					l = append(l, api.Device{Blocks: blocks, Pages: pages, Size: size, Life: life})
				}
			}
		}
	}
	return l
}

// filled answers bytes of which each is different from those beside it, and none
// is that of a blank page.
func filled(seed, size int) []byte {
	b := make([]byte, size)
	for i := range b {
		b[i] = byte((7*seed + i) % 255)
	}
	return b
}

// far are integers far from all that there is.
func far() []int {
	l := []int{math.MinInt, math.MinInt + 1, math.MaxInt - 1, math.MaxInt}
	for i := range 63 {
		l = append(l, 1<<i, 1<<i-1, 1<<i+1, -1<<i)
	}
	return l
}

// P21.1

// codeOf answers the error of an integer that is or is not in a range.
func codeOf(n, least, most int) api.Errno {
	if n < least || n > most {
		return api.ErrConfig
	}
	return api.OK
}

func checkNew(t *testing.T, c api.Device, want api.Errno) {
	t.Helper()
	f, e := New(c)
	if e != want || (f == nil) != (e != api.OK) {
		t.Fatalf("New(%+v) is %v, %d, want %d", c, f != nil, e, want)
	}
	if f != nil && f.Config() != c {
		t.Fatalf("New(%+v) has %+v", c, f.Config())
	}
}

func TestNewOfEachNumber(t *testing.T) {
	all := far()
	for n := -10; n < 1200; n++ {
		all = append(all, n)
	}
	for _, n := range all {
		for _, good := range corners() {
			c := good
			c.Blocks = n
			checkNew(t, c, codeOf(n, 2, mostBlocks))
			c = good
			c.Pages = n
			checkNew(t, c, codeOf(n, 4, mostPages))
			c = good
			c.Size = n
			checkNew(t, c, codeOf(n, leastSize, mostSize))
			c = good
			c.Life = n
			checkNew(t, c, codeOf(n, 1, mostLife))
			if n > 600 {
				break // Life alone can be as great, whatever the others are.
			}
		}
	}
}

func TestNewOfMixedNumbers(t *testing.T) {
	for _, blocks := range []int{1, 2, 16, 17} {
		for _, pages := range []int{3, 4, 16, 17} {
			for _, size := range []int{63, 64, 512, 513} {
				for _, life := range []int{0, 1, 1 << 20, 1<<20 + 1} {
					want := max(codeOf(blocks, 2, 16), codeOf(pages, 4, 16), codeOf(size, 64, 512), codeOf(life, 1, 1<<20))
					checkNew(t, api.Device{Blocks: blocks, Pages: pages, Size: size, Life: life}, want)
				}
			}
		}
	}
	checkNew(t, api.Device{}, api.ErrConfig)
	checkNew(t, api.Device{Blocks: -2, Pages: -4, Size: -64, Life: -1}, api.ErrConfig)
}

// Blocks and pages are numbered from 0, and all of them are blank and can be
// programmed and erased, as nothing is armed.
func TestNewIsBlank(t *testing.T) {
	for _, c := range corners() {
		x := pairOf(t, c)
		x.status()
		for b := range c.Blocks {
			for p := range c.Pages {
				got, e := x.f.Read(b, p)
				checkCode(t, c, e, api.OK)
				if len(got) != c.Size || bytes.Count(got, []byte{255}) != c.Size {
					t.Fatalf("page %d of block %d of %+v is %q", p, b, c, got)
				}
			}
			if x.f.Next(b) != 0 || x.f.Wear(b) != 0 || x.f.Bad(b) {
				t.Fatalf("block %d of %+v is worn or used", b, c)
			}
		}
		for b := range c.Blocks {
			for p := range c.Pages {
				checkCode(t, c, x.program(b, p, filled(b*c.Pages+p, c.Size)), api.OK)
			}
		}
		x.whole()
		for b := range c.Blocks {
			if e := x.erase(b); (e == api.ErrBad) != (c.Life == 1) {
				t.Fatalf("Erase(%d) of %+v is %d", b, c, e)
			}
		}
		x.whole()
	}
}

// P21.2

func TestExample(t *testing.T) {
	f, e := New(small(9))
	checkCode(t, "New", e, api.OK)
	data := filled(1, 64)
	checkCode(t, "the first page", f.Program(0, 0, data), api.OK)
	if f.Next(0) != 1 {
		t.Errorf("Next is %d", f.Next(0))
	}
	checkCode(t, "the first page again", f.Program(0, 0, data), api.ErrOrder)
	f.Arm(1, 3)
	checkCode(t, "the torn page", f.Program(0, 1, data), api.ErrDown)
	f.Restart()
	got, e := f.Read(0, 1)
	checkCode(t, "the torn page", e, api.OK)
	if want := append(slices.Clone(data[:3]), bytes.Repeat([]byte{255}, 61)...); !bytes.Equal(got, want) || f.Next(0) != 2 {
		t.Errorf("the torn page is %q, and Next %d", got, f.Next(0))
	}
}

// Pages are programmed in order, in any order of the blocks.
func TestProgram(t *testing.T) {
	r := rand.New(rand.NewSource(21))
	for _, c := range corners() {
		x := pairOf(t, c)
		for range 3 * c.Blocks {
			b, e := r.Intn(c.Blocks), api.OK
			for p := range c.Pages {
				e = api.ErrOrder
				if p == x.d.next(b) {
					e = api.OK
				}
				checkCode(t, p, x.program(b, p, filled(r.Intn(99), c.Size)), e)
				if e == api.OK {
					break
				}
			}
		}
		x.whole()
	}
}

// Whatever bytes are programmed are read.
func TestProgramOfEachByte(t *testing.T) {
	for _, size := range []int{leastSize, 100, mostSize} {
		c := api.Device{Blocks: mostBlocks, Pages: mostPages, Size: size, Life: 1}
		x := pairOf(t, c)
		for v := range 256 {
			data := bytes.Repeat([]byte{byte(v)}, size)
			data[size-1]++
			checkCode(t, v, x.program(v/mostPages, v%mostPages, data), api.OK)
		}
		x.whole()
	}
}

func TestProgramOfEachLength(t *testing.T) {
	for _, size := range []int{leastSize, 65, 511, mostSize} {
		x := pairOf(t, api.Device{Blocks: 2, Pages: 4, Size: size, Life: 9})
		for n := range 2*mostSize + 2 {
			want := api.ErrArg
			if n == size {
				want = api.OK
			}
			checkCode(t, n, x.program(1, 0, filled(n, n)), want)
		}
		checkCode(t, size, x.program(1, 1, nil), api.ErrArg)
		checkCode(t, size, x.program(1, 1, make([]byte, 0, size)), api.ErrArg)
		checkCode(t, size, x.program(1, 1, make([]byte, size, 2*size)), api.OK)
		checkCode(t, size, x.program(1, 2, make([]byte, 1<<20)), api.ErrArg)
		x.whole()
	}
}

// worn answers a pair whose block 0 is bad, and block 1 has two pages.
func worn(t *testing.T) *pair {
	t.Helper()
	x := pairOf(t, small(1))
	checkCode(t, "a page", x.program(0, 0, filled(1, 64)), api.OK)
	checkCode(t, "the last erase", x.erase(0), api.ErrBad)
	checkCode(t, "a page", x.program(1, 0, filled(2, 64)), api.OK)
	checkCode(t, "a page", x.program(1, 1, filled(3, 64)), api.OK)
	return x
}

// fall has a pair be down.
func fall(x *pair) {
	x.t.Helper()
	x.arm(1, 5)
	checkCode(x.t, "the torn page", x.program(1, 2, filled(4, 64)), api.ErrDown)
}

// first answers the first error that applies, and that of a call that is to
// be refused alone if none does.
func first(down, wrong, bad, order bool) api.Errno {
	switch {
	case down:
		return api.ErrDown
	case wrong:
		return api.ErrArg
	case bad:
		return api.ErrBad
	case order:
		return api.ErrOrder
	}
	return api.OK
}

// All errors in all mixes: the first one is told, and nothing changes.
func TestOrderOfErrors(t *testing.T) {
	numbers := append(far(), -3, -2, -1, 0, 1, 2, 3, 4, 5)
	for _, down := range []bool{false, true} {
		x := worn(t)
		next := 2
		if down {
			fall(x)
			next = 3
		}
		for _, b := range numbers {
			none := b < 0 || b > 1
			for _, p := range numbers {
				wrong := none || p < 0 || p > 3
				for _, n := range []int{0, 1, 63, 64, 65, 128} {
					want := first(down, wrong || n != 64, b == 0, p != next)
					if want != api.OK {
						checkCode(t, []int{b, p, n}, x.program(b, p, filled(9, n)), want)
					}
				}
				checkCode(t, []int{b, p}, x.read(b, p), first(down, wrong, false, false))
			}
			if want := first(down, none, b == 0, false); want != api.OK {
				checkCode(t, b, x.erase(b), want)
			}
			if none && (x.f.Next(b) != 0 || x.f.Wear(b) != 0 || x.f.Bad(b)) {
				t.Fatalf("block %d is there", b)
			}
		}
		x.whole()
	}
}

func TestNil(t *testing.T) {
	var f *Flash
	numbers := append(far(), -1, 0, 1, 2)
	for _, n := range numbers {
		for _, data := range [][]byte{nil, make([]byte, 64)} {
			checkCode(t, n, f.Program(n, 0, data), api.ErrNil)
			checkCode(t, n, f.Program(0, n, data), api.ErrNil)
		}
		for _, at := range [][2]int{{n, 0}, {0, n}} {
			if b, e := f.Read(at[0], at[1]); len(b) != 0 || e != api.ErrNil {
				t.Fatalf("Read of nil is %q, %d", b, e)
			}
			f.Arm(at[0], at[1])
		}
		checkCode(t, n, f.Erase(n), api.ErrNil)
		if f.Next(n) != 0 || f.Wear(n) != 0 || f.Bad(n) {
			t.Fatalf("block %d of nil is there", n)
		}
		f.Restart()
	}
	if f.Bytes() != 0 || f.Down() || len(f.Torn()) != 0 || f.Config() != (api.Device{}) {
		t.Errorf("nil has %d, %t, %v, %v", f.Bytes(), f.Down(), f.Torn(), f.Config())
	}
}

// Whatever a block has, an Erase makes all of it blank, and none but it.
func TestErase(t *testing.T) {
	for _, c := range corners() {
		for n := range c.Pages + 1 {
			x := pairOf(t, c)
			for p := range n {
				x.program(0, p, filled(p, c.Size))
				x.program(1, p, filled(p+50, c.Size))
			}
			before := x.f.Bytes()
			want := api.OK
			if c.Life == 1 {
				want = api.ErrBad
			}
			checkCode(t, c, x.erase(1), want)
			if x.f.Next(1) != 0 || x.f.Next(0) != n || x.f.Wear(1) != 1 || x.f.Wear(0) != 0 || x.f.Bytes() != before {
				t.Fatalf("erased: Next %d, %d, Wear %d, %d", x.f.Next(1), x.f.Next(0), x.f.Wear(1), x.f.Wear(0))
			}
			x.whole()
			if c.Life > 1 {
				checkCode(t, c, x.program(1, 0, filled(99, c.Size)), api.OK)
				x.read(1, 0)
			}
		}
	}
}

// Erases wear a block until it is bad, and no other one; from then on it is blank
// and neither programmed nor erased.
func TestEraseUntilBad(t *testing.T) {
	data := filled(1, 64)
	for _, life := range []int{1, 2, 3, 100, mostLife} {
		f, _ := New(small(life))
		for n := 1; n <= life; n++ {
			checkCode(t, n, f.Program(1, 0, data), api.OK)
			want := api.OK
			if n == life {
				want = api.ErrBad
			}
			checkCode(t, n, f.Erase(1), want)
			if f.Wear(1) != n || f.Bad(1) != (n == life) || f.Next(1) != 0 {
				t.Fatalf("Wear %d, Bad %t, Next %d after %d of %d", f.Wear(1), f.Bad(1), f.Next(1), n, life)
			}
		}
		for range 3 {
			checkCode(t, life, f.Program(1, 0, data), api.ErrBad)
			checkCode(t, life, f.Program(1, 1, data), api.ErrBad)
			checkCode(t, life, f.Erase(1), api.ErrBad)
			b, e := f.Read(1, 0)
			checkCode(t, life, e, api.OK)
			if !bytes.Equal(b, bytes.Repeat([]byte{255}, 64)) || f.Wear(1) != life || f.Next(1) != 0 || f.Bytes() != life*64 {
				t.Fatalf("the bad block has %q, Wear %d, Next %d", b, f.Wear(1), f.Next(1))
			}
			f.Restart()
		}
		if f.Bad(0) || f.Wear(0) != 0 || f.Program(0, 0, data) != api.OK {
			t.Fatalf("block 0 is worn after %d", life)
		}
	}
}

// P21.3

// The numbers of a device are told also while it is down.
func TestNumbersOfOneDown(t *testing.T) {
	x := worn(t)
	fall(x)
	if x.f.Next(0) != 0 || x.f.Wear(0) != 1 || !x.f.Bad(0) || x.f.Next(1) != 3 || x.f.Wear(1) != 0 || x.f.Bad(1) {
		t.Errorf("the blocks are %+v", x.f.blocks)
	}
	if x.f.Bytes() != 4*64 || x.f.Config() != small(1) || !x.f.Down() || len(x.f.Torn()) != 1 {
		t.Errorf("the device is %+v", x.f)
	}
}

// Bytes counts whatever was programmed, erased since or not.
func TestBytes(t *testing.T) {
	for _, size := range []int{leastSize, 65, mostSize} {
		x := pairOf(t, api.Device{Blocks: 3, Pages: 5, Size: size, Life: 100})
		for n := range 90 {
			if x.f.Bytes() != n*size {
				t.Fatalf("Bytes is %d after %d of %d", x.f.Bytes(), n, size)
			}
			if n%5 == 0 && n > 0 {
				x.erase((n/5 - 1) % 3)
			}
			checkCode(t, n, x.program(n/5%3, n%5, filled(n, size)), api.OK)
		}
		x.whole()
	}
}

// P21.4

// fill programs so many pages of a block.
func (x *pair) fill(b, n int) {
	x.t.Helper()
	for p := range n {
		checkCode(x.t, p, x.program(b, p, filled(10*b+p, x.d.c.Size)), api.OK)
	}
}

// keeps are how much may be kept of up to a number of parts, or not.
func keeps(most int) []int {
	l := far()
	for n := -3; n <= most+3; n++ {
		l = append(l, n)
	}
	return l
}

// A torn page has the first bytes, as many as are kept, in any page of a block.
func TestTornProgram(t *testing.T) {
	for _, size := range []int{leastSize, 65, mostSize} {
		c := api.Device{Blocks: 2, Pages: 4, Size: size, Life: 1}
		for _, keep := range keeps(size) {
			for p := range 4 {
				x := pairOf(t, c)
				x.fill(1, p)
				x.arm(1, keep)
				data := filled(77, size)
				checkCode(t, keep, x.program(1, p, data), api.ErrDown)
				if !x.f.Down() || x.f.Next(1) != p+1 || x.f.Bytes() != (p+1)*size {
					t.Fatalf("torn: Down %t, Next %d, Bytes %d", x.f.Down(), x.f.Next(1), x.f.Bytes())
				}
				want := bytes.Repeat([]byte{255}, size)
				copy(want, data[:min(max(keep, 0), size)])
				if l := x.f.Torn(); !sameTorn(l, []api.Torn{{Block: 1, Page: p, Meant: data, Image: want}}) {
					t.Fatalf("Torn is %v, kept are %d", l, keep)
				}
				x.whole()
				checkCode(t, keep, x.program(1, p, data), first(false, false, false, true))
			}
		}
	}
}

// A torn Erase makes the first pages blank, as many as are kept, however many
// were programmed. The block is full then, until it is erased.
func TestTornErase(t *testing.T) {
	for _, pages := range []int{4, 5, mostPages} {
		for _, keep := range keeps(pages) {
			for n := range pages + 1 {
				x := pairOf(t, api.Device{Blocks: 2, Pages: pages, Size: 64, Life: 2})
				checkCode(t, n, x.erase(1), api.OK)
				x.fill(1, n)
				x.fill(0, 2)
				x.arm(1, keep)
				checkCode(t, keep, x.erase(1), api.ErrDown)
				if !x.f.Down() || x.f.Next(1) != pages || x.f.Wear(1) != 1 || x.f.Bad(1) || len(x.f.Torn()) != 0 {
					t.Fatalf("torn: Down %t, Next %d, Wear %d", x.f.Down(), x.f.Next(1), x.f.Wear(1))
				}
				x.whole()
				for p := range pages {
					checkCode(t, p, x.program(1, p, filled(p, 64)), api.ErrOrder)
				}
				checkCode(t, keep, x.erase(1), api.ErrBad)
				x.whole()
			}
		}
	}
}

// The operation that is torn is the one that Arm names, and none if it names
// one below the first. What is refused and what only asks do not count.
func TestArm(t *testing.T) {
	for _, noise := range []bool{false, true} {
		for after := -5; after <= 40; after++ {
			x := pairOf(t, small(100))
			x.arm(after, 1)
			for n := 1; n <= 50; n++ {
				if noise {
					x.refused()
				}
				want := api.OK
				if n == after {
					want = api.ErrDown
				}
				if n%5 == 0 {
					checkCode(t, n, x.erase(1), want)
				} else {
					checkCode(t, n, x.program(1, n%5-1, filled(n, 64)), want)
				}
				if n == after {
					break
				}
			}
			x.whole()
			if (after >= 1) != (len(x.d.done) == after+2) {
				t.Fatalf("armed for %d, %d were done", after, len(x.d.done))
			}
		}
	}
}

// refused calls what is refused and what only asks.
func (x *pair) refused() {
	x.t.Helper()
	for _, b := range []int{-1, 2, math.MaxInt} {
		checkCode(x.t, b, x.erase(b), api.ErrArg)
		checkCode(x.t, b, x.program(b, 0, filled(0, 64)), api.ErrArg)
	}
	checkCode(x.t, 0, x.program(0, 3, filled(0, 64)), api.ErrOrder)
	checkCode(x.t, 0, x.program(0, 4, filled(0, 64)), api.ErrArg)
	checkCode(x.t, 0, x.program(0, 0, filled(0, 63)), api.ErrArg)
	x.status()
	x.pages()
}

// What a bad block refuses does not count either, but the Erase by which it
// becomes bad does, and can be torn.
func TestArmAtBadBlock(t *testing.T) {
	x := worn(t)
	x.arm(1, 2)
	for range 3 {
		checkCode(t, "a bad block", x.erase(0), api.ErrBad)
		checkCode(t, "a bad block", x.program(0, 0, filled(0, 64)), api.ErrBad)
	}
	checkCode(t, "the last erase", x.erase(1), api.ErrDown)
	if x.f.Bad(1) || x.f.Wear(1) != 0 || x.f.Next(1) != 4 {
		t.Errorf("the last erase, torn: Wear %d, Next %d", x.f.Wear(1), x.f.Next(1))
	}
	x.whole()

	x = pairOf(t, small(1))
	x.arm(2, 0)
	checkCode(t, "the last erase", x.erase(0), api.ErrBad)
	checkCode(t, "the second", x.program(1, 0, filled(0, 64)), api.ErrDown)
	x.whole()
}

// An Arm takes the place of the one before it.
func TestArmAgain(t *testing.T) {
	for one := -1; one <= 4; one++ {
		for other := -1; other <= 4; other++ {
			for between := range 4 {
				if one > 0 && between >= one {
					continue
				}
				x := pairOf(t, small(9))
				x.arm(one, 60)
				x.fill(0, between)
				x.arm(other, 3)
				for n := 1; n <= 4 && !x.f.Down(); n++ {
					want := api.OK
					if n == other {
						want = api.ErrDown
					}
					checkCode(t, n, x.program(1, n-1, filled(n, 64)), want)
				}
				x.whole()
			}
		}
	}
}

// Far numbers let none of the next operations be torn, and so does 0.
func TestArmFar(t *testing.T) {
	for _, after := range append(far(), 0) {
		if after > 0 && after < 1000 {
			continue
		}
		x := pairOf(t, small(99))
		x.arm(after, 1)
		for range 20 {
			x.fill(1, 4)
			checkCode(t, after, x.erase(1), api.OK)
		}
		x.whole()
	}
}

// Restart has a device be up with nothing armed, and it keeps all it has.
func TestRestart(t *testing.T) {
	for after := -1; after <= 5; after++ {
		for done := range 4 {
			x := pairOf(t, small(3))
			x.arm(after, 2)
			for p := range done {
				x.program(0, p, filled(p, 64))
			}
			down := after >= 1 && after <= done
			if x.f.Down() != down {
				t.Fatalf("armed for %d, after %d Down is %t", after, done, x.f.Down())
			}
			x.status()
			if down {
				// It cannot be armed, neither for now nor for later.
				x.arm(1, 3)
				x.status()
			}
			x.restart()
			if x.f.Down() {
				t.Fatal("a restarted device is down")
			}
			x.whole()
			x.fill(1, 4)
			checkCode(t, "an erase", x.erase(1), api.OK)
			x.restart()
			x.whole()
		}
	}
}

// Torn tells all torn pages in order, also such as have what was intended, and
// keeps them whatever becomes of their blocks.
func TestTorn(t *testing.T) {
	x := pairOf(t, api.Device{Blocks: 3, Pages: 4, Size: 64, Life: 2})
	for n, keep := range []int{64, 0, 63, 1, 99, -1, 20, 64} {
		b := []int{2, 0, 2, 1, 1, 2, 0, 1}[n]
		x.arm(1, keep)
		checkCode(t, n, x.program(b, x.f.Next(b), filled(n, 64)), api.ErrDown)
		if len(x.f.Torn()) != n+1 {
			t.Fatalf("%d are torn, want %d", len(x.f.Torn()), n+1)
		}
		x.status()
		x.restart()
	}
	for b := range 3 {
		x.arm(1, b)
		checkCode(t, b, x.erase(b), api.ErrDown)
		x.whole()
		checkCode(t, b, x.erase(b), api.OK)
		checkCode(t, b, x.erase(b), api.ErrBad)
	}
	x.whole()
	l := x.f.Torn()
	if len(l) != 8 || l[0].Block != 2 || l[0].Page != 0 || l[7].Block != 1 || l[7].Page != 2 || !bytes.Equal(l[0].Meant, l[0].Image) || !bytes.Equal(l[1].Image, bytes.Repeat([]byte{255}, 64)) {
		t.Errorf("Torn is %v", l)
	}
}

// P21.5

// All short sequences of calls, on devices that wear out soon.
func TestShortSequences(t *testing.T) {
	calls := []func(*pair){
		func(x *pair) { x.program(0, x.d.next(0), filled(x.f.Bytes(), 64)) },
		func(x *pair) { x.program(1, x.d.next(1), filled(x.f.Bytes()+1, 64)) },
		func(x *pair) { x.program(0, 0, filled(x.f.Bytes()+2, 64)) },
		func(x *pair) { x.erase(0) },
		func(x *pair) { x.erase(1) },
		func(x *pair) { x.arm(1, 1) },
		func(x *pair) { x.arm(2, 3) },
		func(x *pair) { x.arm(0, 2) },
		func(x *pair) { x.restart() },
	}
	const length = 5
	most := 1
	for range length {
		most *= len(calls)
	}
	for which := range most {
		x := pairOf(t, small(1+which%2))
		for left, n := which, 0; n < length; n++ {
			calls[left%len(calls)](x)
			left /= len(calls)
		}
		x.whole()
	}
}

// mixed calls anything, most of it such as is not refused.
func (x *pair) mixed(r *rand.Rand) {
	x.t.Helper()
	c := x.d.c
	b, p := r.Intn(c.Blocks), r.Intn(c.Pages+2)-1
	size := c.Size
	switch r.Intn(20) {
	case 0:
		b = r.Intn(c.Blocks+2) - 1
	case 1:
		size += r.Intn(3) - 1
	}
	if r.Intn(6) > 0 {
		p = x.d.next(b)
	}
	switch n := r.Intn(40); {
	case p == c.Pages && n < 13:
		x.erase(b)
	case n < 26:
		x.program(b, p, filled(r.Intn(256), size))
	case n < 30:
		x.read(b, p)
	case n < 34:
		x.erase(b)
	case n < 37:
		x.arm(r.Intn(7)-1, r.Intn(size+4)-2)
	default:
		x.restart()
		x.pages()
	}
}

// Wear never decreases, a device that is down changes nothing, and a page keeps
// its bytes until the next Erase of its block.
func TestByTheDocument(t *testing.T) {
	r := rand.New(rand.NewSource(215))
	torn, bad, refused := 0, 0, 0
	for range 800 {
		c := api.Device{Blocks: 2 + r.Intn(2), Pages: 4 + r.Intn(2), Size: 64 + r.Intn(2), Life: 1 + r.Intn(16)}
		x := pairOf(t, c)
		for range 100 {
			if x.f.Down() && r.Intn(4) == 0 {
				x.restart()
			}
			wear, done, down := x.wears(), len(x.d.done), x.f.Down()
			x.mixed(r)
			x.status()
			for b, w := range x.wears() {
				if w < wear[b] || down && w != wear[b] {
					t.Fatalf("Wear was %d, and is %d, after %s", wear[b], w, x.past())
				}
			}
			if done == len(x.d.done) {
				refused++
			}
		}
		torn += len(x.f.Torn())
		for b := range c.Blocks {
			if x.f.Bad(b) {
				bad++
			}
		}
		x.whole()
	}
	if torn < 500 || bad < 500 || refused < 1000 {
		t.Errorf("only %d pages are torn, %d blocks bad, and %d calls refused", torn, bad, refused)
	}
}

func (x *pair) wears() []int {
	l := make([]int, x.d.c.Blocks)
	for b := range l {
		l[b] = x.f.Wear(b)
	}
	return l
}

// What is written to arguments and answers changes nothing.
func TestAnswersAreNew(t *testing.T) {
	spoil := func(b []byte) {
		b = b[:cap(b)]
		for i := range b {
			b[i] = 77
		}
	}
	x := pairOf(t, small(9))
	for n := range 4 {
		data := append(make([]byte, 0, 100), filled(n, 64)...)
		room := append(data[64:], "behind the end"...)
		if n%2 == 1 {
			x.arm(1, 30)
		}
		x.program(0, n, data)
		if string(room) != "behind the end" {
			t.Fatalf("behind the end is %q", room)
		}
		spoil(data)
		x.status()
		x.restart()
		x.pages()
	}
	for range 2 {
		for p := range 4 {
			for b := range 2 {
				page, _ := x.f.Read(b, p)
				spoil(page)
			}
		}
		l := x.f.Torn()
		for _, one := range l {
			kept, meant := slices.Clone(one.Image), slices.Clone(one.Meant)
			spoil(one.Meant)
			if !bytes.Equal(one.Image, kept) {
				t.Fatal("Meant and Image share their bytes")
			}
			spoil(one.Image)
			if bytes.Equal(meant, one.Meant) {
				t.Fatal("nothing was spoilt")
			}
		}
		clear(l)
		_ = append(l[:0], api.Torn{Block: 9})
		x.whole()
		x.erase(0)
		x.fill(0, 4)
		x.whole()
	}
}

// Two devices of the same numbers have nothing in common.
func TestTwoDevices(t *testing.T) {
	one, other := pairOf(t, small(2)), pairOf(t, small(2))
	one.fill(0, 3)
	one.erase(1)
	one.arm(1, 2)
	other.whole()
	other.fill(1, 4)
	checkCode(t, "the other one", other.erase(1), api.OK)
	checkCode(t, "the armed one", one.program(0, 3, filled(9, 64)), api.ErrDown)
	other.whole()
	other.restart()
	if !one.f.Down() {
		t.Error("the restart of the other one has it be up")
	}
	other.arm(1, 9)
	checkCode(t, "the other one", other.erase(0), api.ErrDown)
	one.restart()
	if !other.f.Down() || len(other.f.Torn()) != 0 || len(one.f.Torn()) != 1 {
		t.Error("the torn pages are mixed up")
	}
	one.whole()
	other.whole()
}

// Asking changes nothing, however often.
func TestAskedAgain(t *testing.T) {
	x := worn(t)
	x.arm(2, 7)
	for range 10 {
		x.status()
		x.pages()
	}
	checkCode(t, "the first", x.program(1, 2, filled(1, 64)), api.OK)
	for range 10 {
		x.status()
		x.pages()
	}
	checkCode(t, "the second", x.program(1, 3, filled(1, 64)), api.ErrDown)
	for range 10 {
		x.status()
	}
	x.whole()
}
