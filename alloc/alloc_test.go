package alloc

import (
	"bytes"
	"fmt"
	"math"
	"slices"
	"testing"

	"engross/api"
	"engross/sheet"
)

// source is a small generator, so that every run tries the same inputs.
type source uint64

func (s *source) next() uint64 {
	*s ^= *s << 13
	*s ^= *s >> 7
	*s ^= *s << 17
	return uint64(*s)
}

func (s *source) below(n int) int { return int(s.next() >> 8 % uint64(n)) }

func (s *source) bytes(n int) []byte {
	b := make([]byte, n)
	for i := range b {
		b[i] = byte(s.next() >> 16)
	}
	return b
}

// noBit are numbers of pages that are never in use.
func noBit() []int {
	l := []int{
		0, 1, -1, -2, -3, -8, -30, -31, -32, -254, -256, 96, 97, 127, 128, 255, 256, 258, 287, 288, 2047, 2048, 2050, 1 << 16, 1 << 31,
		1 << 32, 1<<32 + 2, 1<<32 + 31, -1 << 32, 2 - 1<<32, 1 << 40, 1 << 62, -1 << 62, math.MaxInt64, math.MaxInt64 - 1,
		math.MinInt64, math.MinInt64 + 2, math.MinInt64 + 31,
	}
	for no := 32; no <= 95; no++ {
		l = append(l, no)
	}
	return l
}

// noRoot are numbers of pages at which no tree begins.
func noRoot() []int { return slices.DeleteFunc(noBit(), func(no int) bool { return no == 0 }) }

// theErrors are the document's, and some numbers that are none of these.
func theErrors() []api.Errno {
	return []api.Errno{
		api.ErrForm, api.ErrMore, api.ErrRange, api.ErrFull, api.ErrDown, api.ErrNone, api.ErrExists, api.ErrCorrupt,
		api.ErrBusy, api.ErrBlocked, api.ErrVictim, api.ErrInvalid, -1, 13, 1 << 32, math.MaxInt64, math.MinInt64,
	}
}

// ground is pages to lie beneath. It hands out the very bytes that it keeps,
// beside an error too.
type ground struct {
	pages [96][]byte
	errs  [96]api.Errno
}

func (g *ground) Page(no int) ([]byte, api.Errno) {
	if no < 0 || no > 95 {
		return nil, api.ErrRange
	}
	return g.pages[no], g.errs[no]
}

// grown is a ground whose pages are filled with anything.
func grown(seed source) *ground {
	g := &ground{}
	for no := range g.pages {
		g.pages[no] = seed.bytes(256)
	}
	return g
}

// with is g in whose page 1 just the pages of l are in use; all other bits and
// bytes are what they were.
func (g *ground) with(l ...int) *ground {
	b := g.pages[1]
	b[0] &= 3
	b[1], b[2], b[3] = 0, 0, 0
	for _, no := range l {
		b[no/8] |= 1 << (no % 8)
	}
	return g
}

// all are the pages that can be in use, but those of l.
func all(l ...int) []int {
	var r []int
	for no := 2; no <= 31; no++ {
		if !slices.Contains(l, no) {
			r = append(r, no)
		}
	}
	return r
}

// sight is all that pages show.
type sight struct {
	pages [96][]byte
	errs  [96]api.Errno
}

func see(p sheet.Pages) sight {
	v := sight{}
	for no := range 96 {
		b, err := p.Page(no)
		v.pages[no], v.errs[no] = slices.Clone(b), err
	}
	return v
}

// but is v with the page no otherwise.
func (v sight) but(no int, b []byte) sight {
	v.pages[no], v.errs[no] = b, api.OK
	return v
}

// bits is v with the bits of l in the page 1 set, or taken off.
func (v sight) bits(set bool, l ...int) sight {
	b := slices.Clone(v.pages[1])
	for _, no := range l {
		b[no/8] |= 1 << (no % 8)
		if !set {
			b[no/8] -= 1 << (no % 8)
		}
	}
	return v.but(1, b)
}

// root is v with the fifth byte of the page 1 otherwise.
func (v sight) root(x byte) sight {
	b := slices.Clone(v.pages[1])
	b[4] = x
	return v.but(1, b)
}

// stays asks that p shows want.
func stays(t *testing.T, what string, p sheet.Pages, want sight) {
	t.Helper()
	now := see(p)
	for no := range 96 {
		if !bytes.Equal(now.pages[no], want.pages[no]) || now.errs[no] != want.errs[no] {
			t.Errorf("%s: the page %d is %x, %d, want %x, %d", what, no, now.pages[no], now.errs[no], want.pages[no], want.errs[no])
		}
	}
}

// root asks that Root is want.
func root(t *testing.T, what string, p sheet.Pages, want int, fault api.Errno) {
	t.Helper()
	if no, err := Root(p); no != want || err != fault {
		t.Errorf("%s: Root = %d, %d, want %d, %d", what, no, err, want, fault)
	}
}

// inUse asks that just the pages of l are in use, one by one and all together.
func inUse(t *testing.T, what string, p sheet.Pages, l []int) {
	t.Helper()
	for no := 2; no <= 31; no++ {
		if got, err := Used(p, no); got != slices.Contains(l, no) || err != api.OK {
			t.Errorf("%s: Used(%d) = %v, %d, in use are %d", what, no, got, err, l)
		}
	}
	if n, err := Count(p); n != len(l) || err != api.OK {
		t.Errorf("%s: Count = %d, %d, in use are %d", what, n, err, l)
	}
}

// takes asks that Take is want.
func takes(t *testing.T, what string, s *sheet.Sheet, want int, fault api.Errno) {
	t.Helper()
	if no, err := Take(s); no != want || err != fault {
		t.Errorf("%s: Take = %d, %d, want %d, %d", what, no, err, want, fault)
	}
}

// frees asks that Free is want.
func frees(t *testing.T, what string, s *sheet.Sheet, no int, want api.Errno) {
	t.Helper()
	if err := Free(s, no); err != want {
		t.Errorf("%s: Free(%d) = %d, want %d", what, no, err, want)
	}
}

// begins asks that SetRoot is want.
func begins(t *testing.T, what string, s *sheet.Sheet, no int, want api.Errno) {
	t.Helper()
	if err := SetRoot(s, no); err != want {
		t.Errorf("%s: SetRoot(%d) = %d, want %d", what, no, err, want)
	}
}

// zero is a page of noughts.
func zero() []byte { return make([]byte, 256) }

// bitOf is, written out, the byte and the bit that a page from 2 to 31 has.
func bitOf(no int) (int, byte) {
	rows := [4][8]int{
		{0, 1, 2, 3, 4, 5, 6, 7},
		{8, 9, 10, 11, 12, 13, 14, 15},
		{16, 17, 18, 19, 20, 21, 22, 23},
		{24, 25, 26, 27, 28, 29, 30, 31},
	}
	for i, row := range rows {
		if k := slices.Index(row[:], no); k >= 0 {
			return i, [8]byte{1, 2, 4, 8, 16, 32, 64, 128}[k]
		}
	}
	panic("no such page")
}

func TestEachPageHasItsBit(t *testing.T) {
	for no := 2; no <= 31; no++ {
		i, x := bitOf(no)
		g := &ground{}
		for k := range g.pages {
			g.pages[k] = zero()
		}
		g.pages[1][i] = x
		inUse(t, fmt.Sprint("P13.1: the bit of ", no, " alone"), g, []int{no})

		for k := range g.pages {
			g.pages[k] = bytes.Repeat([]byte{255}, 256)
		}
		g.pages[1][i] -= x
		inUse(t, fmt.Sprint("P13.1: all but the bit of ", no), g, all(no))

		s := sheet.New(g)
		was := see(s)
		takes(t, "P13.1: the bit", s, no, api.OK)
		stays(t, fmt.Sprint("P13.1: the bit that Take set for ", no), s, was.but(1, bytes.Repeat([]byte{255}, 256)).but(no, zero()))
		inUse(t, "P13.1: taken", s, all())
		frees(t, "P13.1: the bit", s, no, api.OK)
		stays(t, fmt.Sprint("P13.1: the bit that Free took off for ", no), s, was.but(no, zero()))
	}
}

func TestAllBitsTogether(t *testing.T) {
	for _, low := range []byte{0, 1, 2, 3} {
		g := grown(7)
		copy(g.pages[1], []byte{low | 0xfc, 0xff, 0xff, 0xff})
		inUse(t, "P13.1: all bits", g, all())
		copy(g.pages[1], []byte{low, 0, 0, 0})
		inUse(t, "P13.1: no bit", g, nil)
		copy(g.pages[1], []byte{low | 0x54, 0x55, 0x55, 0x55})
		inUse(t, "P13.1: each second bit", g, []int{2, 4, 6, 8, 10, 12, 14, 16, 18, 20, 22, 24, 26, 28, 30})
		copy(g.pages[1], []byte{low | 0xa8, 0xaa, 0xaa, 0xaa})
		inUse(t, "P13.1: each other bit", g, []int{3, 5, 7, 9, 11, 13, 15, 17, 19, 21, 23, 25, 27, 29, 31})
		copy(g.pages[1], []byte{low | 0x08, 0x01, 0x80, 0x42})
		inUse(t, "P13.1: some bits", g, []int{3, 8, 23, 25, 30})
	}
}

// What no call asks may be anything, and says nothing.
func TestTheOtherBitsAndBytesSayNothing(t *testing.T) {
	for k := source(1); k <= 20; k++ {
		g := grown(k).with(2, 9, 31)
		g.pages[1][0] = g.pages[1][0]&^3 | byte(k&3)
		g.pages[1][4] = 31
		inUse(t, "P13.1: other bytes", g, []int{2, 9, 31})
		root(t, "P13.1: other bytes", g, 31, api.OK)
		for no := range g.errs {
			if no != 1 {
				g.errs[no] = api.ErrCorrupt
				g.pages[no] = nil
			}
		}
		inUse(t, "P13.1: no other page", g, []int{2, 9, 31})
		root(t, "P13.1: no other page", g, 31, api.OK)
	}
}

func TestRootOfEachFifthByte(t *testing.T) {
	for x := range 256 {
		g := grown(11)
		g.pages[1][4] = byte(x)
		for no := range g.pages {
			if no != 1 {
				g.pages[no][4] = 7
			}
		}
		for i := range g.pages[1] {
			if i != 4 {
				g.pages[1][i] = 9
			}
		}
		want, fault := x, api.OK
		if x == 1 || x > 31 {
			want, fault = 0, api.ErrRange
		}
		root(t, fmt.Sprint("P13.1: the fifth byte ", x), g, want, fault)
		root(t, fmt.Sprint("P13.1: the fifth byte ", x, ", a sheet"), sheet.New(g), want, fault)
	}
}

// The tree may begin at a page whether it is in use or not.
func TestSetRoot(t *testing.T) {
	for _, l := range [][]int{nil, {2, 5, 30}, all()} {
		s := sheet.New(grown(12).with(l...))
		was := see(s)
		for no := range 32 {
			if no == 1 {
				continue
			}
			begins(t, "P13.1: SetRoot", s, no, api.OK)
			root(t, "P13.1: what was set last", s, no, api.OK)
			stays(t, fmt.Sprint("P13.1: behind SetRoot of ", no), s, was.root(byte(no)))
			inUse(t, "P13.1: behind SetRoot", s, l)
		}
		begins(t, "P13.1: SetRoot", s, 3, api.OK)
		begins(t, "P13.1: SetRoot again", s, 3, api.OK)
		stays(t, "P13.1: behind SetRoot again", s, was.root(3))
		begins(t, "P13.1: SetRoot", s, 0, api.OK)
		root(t, "P13.1: no tree", s, 0, api.OK)
	}
}

func TestSetRootOfNoPage(t *testing.T) {
	for _, x := range []byte{0, 1, 2, 7, 31, 32, 255} {
		g := grown(13)
		g.pages[1][4] = x
		s := sheet.New(g)
		was := see(s)
		for _, no := range noRoot() {
			begins(t, "P13.1: no page", s, no, api.ErrRange)
		}
		stays(t, "P13.1: behind SetRoot of no page", s, was)
		if l := s.Changes(); len(l) != 0 {
			t.Errorf("P13.1: behind SetRoot of no page: %d changes", len(l))
		}
	}
}

// Whatever the fifth byte was, another one can be set.
func TestSetRootOverAnyByte(t *testing.T) {
	for x := range 256 {
		g := grown(14)
		g.pages[1][4] = byte(x)
		s := sheet.New(g)
		was := see(s)
		begins(t, fmt.Sprint("P13.1: over ", x), s, 31, api.OK)
		stays(t, fmt.Sprint("P13.1: over ", x), s, was.root(31))
	}
}

// Neither does the fifth byte say what is in use.
func TestWhateverTheFifthByteIs(t *testing.T) {
	for x := range 256 {
		g := grown(15).with(2, 3, 17)
		g.pages[1][4] = byte(x)
		s := sheet.New(g)
		was := see(s)
		inUse(t, fmt.Sprint("P13.1: the fifth byte ", x), s, []int{2, 3, 17})
		takes(t, fmt.Sprint("P13.1: the fifth byte ", x), s, 4, api.OK)
		frees(t, fmt.Sprint("P13.1: the fifth byte ", x), s, 17, api.OK)
		stays(t, fmt.Sprint("P13.1: the fifth byte ", x), s, was.bits(true, 4).bits(false, 17).but(4, zero()))
	}
}

func TestUsedOfOtherNumbers(t *testing.T) {
	for _, x := range []byte{0, 255, 0x5a} {
		g := grown(16)
		for no := range g.pages {
			g.pages[no] = bytes.Repeat([]byte{x}, 256)
		}
		for _, no := range noBit() {
			if got, err := Used(g, no); got || err != api.OK {
				t.Errorf("P13.1: Used(%d) = %v, %d, with all bytes %#x", no, got, err, x)
			}
			if got, err := Used(sheet.New(g), no); got || err != api.OK {
				t.Errorf("P13.1: Used(%d) = %v, %d, with all bytes %#x, of a sheet", no, got, err, x)
			}
		}
	}
}

func TestTakeTellsTheLeast(t *testing.T) {
	for free := 2; free <= 31; free++ {
		var below []int
		for no := 2; no < free; no++ {
			below = append(below, no)
		}
		for _, l := range [][]int{below, all(free), all(free, 31), all(free, free/2+16)} {
			s := sheet.New(grown(17).with(l...))
			was := see(s)
			takes(t, fmt.Sprint("P13.1: in use are ", l), s, free, api.OK)
			stays(t, fmt.Sprint("P13.1: behind Take of ", free), s, was.bits(true, free).but(free, zero()))
			now := slices.Sorted(slices.Values(append(slices.Clone(l), free)))
			inUse(t, "P13.1: behind Take", s, now)
		}
	}
}

func TestThirtyTakes(t *testing.T) {
	for k := source(1); k <= 8; k++ {
		g := grown(k).with()
		g.pages[1][0] = byte(k & 3)
		s := sheet.New(g)
		want := see(s)
		for no := 2; no <= 31; no++ {
			takes(t, "P13.1: thirty", s, no, api.OK)
			want = want.bits(true, no).but(no, zero())
			stays(t, fmt.Sprint("P13.1: thirty, behind ", no), s, want)
		}
		inUse(t, "P13.1: thirty", s, all())
		for range 3 {
			takes(t, "P13.1: one more", s, 0, api.ErrFull)
			stays(t, "P13.1: one more", s, want)
		}
	}
}

func TestTakeOfNone(t *testing.T) {
	for _, low := range []byte{0, 1, 2, 3} {
		g := grown(18).with(all()...)
		g.pages[1][0] = 0xfc | low
		s := sheet.New(g)
		was := see(s)
		takes(t, "P13.1: none is free", s, 0, api.ErrFull)
		stays(t, "P13.1: none is free", s, was)
		if l := s.Changes(); len(l) != 0 {
			t.Errorf("P13.1: none is free: %d changes", len(l))
		}
		inUse(t, "P13.1: none is free", s, all())
	}
}

// What was set on the sheet is gone as what lay beneath is.
func TestATakenPageIsAllNoughts(t *testing.T) {
	g := grown(19).with(2, 4)
	g.errs[5], g.pages[5] = api.ErrCorrupt, nil
	s := sheet.New(g)
	s.Set(3, bytes.Repeat([]byte{255}, 256))
	want := see(s)
	for _, no := range []int{3, 5, 6} {
		takes(t, "P13.1: all noughts", s, no, api.OK)
		want = want.bits(true, no).but(no, zero())
		stays(t, "P13.1: all noughts", s, want)
	}
	s.Set(3, bytes.Repeat([]byte{9}, 256))
	want = want.but(3, bytes.Repeat([]byte{9}, 256))
	frees(t, "P13.1: all noughts", s, 3, api.OK)
	stays(t, "P13.1: a freed page stays as it is", s, want.bits(false, 3))
	takes(t, "P13.1: all noughts", s, 3, api.OK)
	stays(t, "P13.1: all noughts again", s, want.but(3, zero()))
}

func TestFree(t *testing.T) {
	for _, l := range [][]int{all(), {2}, {31}, {2, 3, 4, 5}, {7, 8, 15, 16, 23, 24}} {
		for _, no := range l {
			s := sheet.New(grown(20).with(l...))
			was := see(s)
			rest := slices.DeleteFunc(slices.Clone(l), func(x int) bool { return x == no })
			frees(t, "P13.1: Free", s, no, api.OK)
			stays(t, fmt.Sprint("P13.1: behind Free of ", no), s, was.bits(false, no))
			inUse(t, "P13.1: behind Free", s, rest)
			frees(t, "P13.1: freed twice", s, no, api.ErrNone)
			stays(t, fmt.Sprint("P13.1: behind two Frees of ", no), s, was.bits(false, no))
			least := no
			for k := no; k >= 2; k-- {
				if !slices.Contains(rest, k) {
					least = k
				}
			}
			takes(t, fmt.Sprint("P13.1: behind Free of ", no), s, least, api.OK)
		}
	}
}

// A page is told again as soon as it is the least that is free.
func TestFreeAndTakeAgain(t *testing.T) {
	s := sheet.New(grown(21).with(all()...))
	for _, no := range []int{20, 31, 2, 9, 16, 8} {
		frees(t, "P13.1: Free", s, no, api.OK)
	}
	inUse(t, "P13.1: behind Frees", s, all(20, 31, 2, 9, 16, 8))
	for _, no := range []int{2, 8, 9, 16, 20, 31} {
		takes(t, "P13.1: Take again", s, no, api.OK)
	}
	takes(t, "P13.1: Take again", s, 0, api.ErrFull)
}

func TestFreeOfAPageThatIsNotInUse(t *testing.T) {
	for _, l := range [][]int{nil, {2}, {31}, {7, 8, 15}, all(2), all(31), all(12, 13)} {
		s := sheet.New(grown(22).with(l...))
		was := see(s)
		for no := 2; no <= 31; no++ {
			if !slices.Contains(l, no) {
				frees(t, fmt.Sprint("P13.1: in use are ", l), s, no, api.ErrNone)
			}
		}
		stays(t, "P13.1: behind Free of one that was not", s, was)
		if l := s.Changes(); len(l) != 0 {
			t.Errorf("P13.1: behind Free of one that was not: %d changes", len(l))
		}
	}
}

func TestFreeOfOtherNumbers(t *testing.T) {
	for _, x := range []byte{0, 255, 0x5a} {
		g := grown(23)
		for no := range g.pages {
			g.pages[no] = bytes.Repeat([]byte{x}, 256)
		}
		s := sheet.New(g)
		was := see(s)
		for _, no := range noBit() {
			frees(t, fmt.Sprintf("P13.1: all bytes %#x", x), s, no, api.ErrNone)
		}
		stays(t, "P13.1: behind Free of no page", s, was)
		if l := s.Changes(); len(l) != 0 {
			t.Errorf("P13.1: behind Free of no page: %d changes", len(l))
		}
	}
}

// A tree may begin at a page that is freed: Free does not ask.
func TestFreeOfTheRoot(t *testing.T) {
	s := sheet.New(grown(24).with(2, 3))
	begins(t, "P13.1: SetRoot", s, 3, api.OK)
	frees(t, "P13.1: the first page", s, 3, api.OK)
	root(t, "P13.1: the first page was freed", s, 3, api.OK)
	takes(t, "P13.1: the first page was freed", s, 3, api.OK)
	root(t, "P13.1: the first page was taken", s, 3, api.OK)
}

func TestCount(t *testing.T) {
	for _, low := range []byte{0, 1, 2, 3} {
		for n := range 31 {
			g := grown(25).with(all()[:n]...)
			g.pages[1][0] = g.pages[1][0]&^3 | low
			inUse(t, fmt.Sprint("P13.1: the first ", n), g, all()[:n])
			g.with(all()[30-n:]...)
			inUse(t, fmt.Sprint("P13.1: the last ", n), g, all()[30-n:])
		}
	}
}

// lost are the pages that can't be told, by the error that they tell.
func lost() map[api.Errno][]sheet.Pages {
	var none *sheet.Sheet
	m := map[api.Errno][]sheet.Pages{api.ErrDown: {none, sheet.New(nil), sheet.New(none), sheet.New(sheet.New(nil)), nil}}
	for k, e := range theErrors() {
		g := grown(source(k + 1))
		g.errs[1] = e
		bare := grown(source(k + 1))
		bare.errs[1], bare.pages[1] = e, nil
		m[e] = append(m[e], g, sheet.New(g), sheet.New(sheet.New(g)), bare, sheet.New(bare))
	}
	return m
}

func TestErrorsOfThePagesAreTold(t *testing.T) {
	for e, l := range lost() {
		for k, p := range l {
			what := fmt.Sprint("P13.1: the error ", e, ", pages ", k)
			root(t, what, p, 0, e)
			for _, no := range append(noBit(), all()...) {
				if got, err := Used(p, no); got || err != e {
					t.Errorf("%s: Used(%d) = %v, %d", what, no, got, err)
				}
			}
			if n, err := Count(p); n != 0 || err != e {
				t.Errorf("%s: Count = %d, %d", what, n, err)
			}
		}
	}
}

func TestErrorsOfTheSheetAreTold(t *testing.T) {
	var none *sheet.Sheet
	for e, l := range lost() {
		for _, p := range l {
			s := sheet.New(p)
			s.Set(2, bytes.Repeat([]byte{9}, 256))
			was, changes := see(s), len(s.Changes())
			writes(t, fmt.Sprint("P13.1: the error ", e), s, e)
			stays(t, fmt.Sprint("P13.1: the error ", e), s, was)
			if n := len(s.Changes()); n != changes {
				t.Errorf("P13.1: the error %d: %d changes, ahead of it %d", e, n, changes)
			}
		}
	}
	writes(t, "P13.1: no sheet", none, api.ErrDown)
	writes(t, "P13.1: a sheet that New did not make", &sheet.Sheet{}, api.ErrDown)
}

// writes asks that each call that writes tells the error e, if none that the
// chapter names ahead of it applies.
func writes(t *testing.T, what string, s *sheet.Sheet, e api.Errno) {
	t.Helper()
	takes(t, what, s, 0, e)
	begins(t, what, s, 0, e)
	for _, no := range all() {
		begins(t, what, s, no, e)
		frees(t, what, s, no, e)
	}
	for _, no := range noRoot() {
		begins(t, what, s, no, api.ErrRange)
	}
	for _, no := range noBit() {
		frees(t, what, s, no, api.ErrNone)
	}
}

// Of all pages the first one alone is asked.
func TestErrorsOfOtherPagesAreNot(t *testing.T) {
	g := grown(26).with(3)
	for no := range g.errs {
		if no != 1 {
			g.errs[no] = api.ErrCorrupt
		}
	}
	s := sheet.New(g)
	inUse(t, "P13.1: errors of other pages", s, []int{3})
	takes(t, "P13.1: errors of other pages", s, 2, api.OK)
	frees(t, "P13.1: errors of other pages", s, 3, api.OK)
	begins(t, "P13.1: errors of other pages", s, 4, api.OK)
	root(t, "P13.1: errors of other pages", s, 4, api.OK)
	inUse(t, "P13.1: errors of other pages", s, []int{2})
}

// Pages that somebody else wrote may tell less than a page, or more.
func TestAPageThatIsNone(t *testing.T) {
	for _, n := range []int{0, 1, 3, 4, 5, 255, 257, 512, 1 << 16} {
		g := grown(27)
		g.pages[1] = bytes.Repeat([]byte{2}, n)
		s := sheet.New(g)
		was := see(s)
		root(t, "P0.1: no page", g, 0, api.ErrCorrupt)
		if got, err := Used(g, 25); got || err != api.ErrCorrupt {
			t.Errorf("P0.1: no page: Used = %v, %d", got, err)
		}
		if k, err := Count(g); k != 0 || err != api.ErrCorrupt {
			t.Errorf("P0.1: no page: Count = %d, %d", k, err)
		}
		writes(t, "P0.1: no page", s, api.ErrCorrupt)
		stays(t, "P0.1: no page", s, was)
	}
}
