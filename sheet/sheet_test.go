package sheet

import (
	"bytes"
	"fmt"
	"math"
	"slices"
	"testing"

	"engross/api"
	"engross/guard"
)

// source is a small generator, so that every run tries the same inputs.
type source uint64

func (s *source) next() uint64 {
	*s ^= *s << 13
	*s ^= *s >> 7
	*s ^= *s << 17
	return uint64(*s)
}

func (s *source) below(n int) int { return int(s.next() >> 8 % uint64(n)) }

func (s *source) bytes(n int) []byte {
	b := make([]byte, n)
	for i := range b {
		b[i] = byte(s.next() >> 16)
	}
	return b
}

// full is a page of one byte.
func full(x byte) []byte { return bytes.Repeat([]byte{x}, 256) }

// spoil writes all over b, its spare room too.
func spoil(b []byte) {
	b = b[:cap(b)]
	for i := range b {
		b[i] ^= 0xa5
	}
}

// edges are the numbers at which something ends or begins.
func edges() []int { return []int{0, 1, 2, 30, 31, 32, 33, 63, 64, 94, 95} }

// noPages are numbers that no page has.
func noPages() []int {
	return []int{
		-1, -2, -31, -32, -95, -96, -97, 96, 97, 127, 128, 192, 255, 256, 351, 1 << 16, 1 << 31, 1 << 32, 1<<32 + 1, 1<<32 + 95,
		-1 << 32, 1 << 40, 1 << 62, -1 << 62, math.MaxInt64, math.MaxInt64 - 1, math.MinInt64, math.MinInt64 + 1, math.MinInt64 + 95,
	}
}

// noTexts are texts that no page has.
func noTexts() [][]byte {
	l := [][]byte{nil, {}, make([]byte, 0, 256), make([]byte, 255, 256), make([]byte, 257), make([]byte, 255, 600)}
	for _, n := range []int{1, 2, 32, 64, 128, 254, 255, 257, 258, 320, 511, 512, 1 << 16, 1<<16 + 256} {
		l = append(l, bytes.Repeat([]byte{'n'}, n))
	}
	return l
}

// theErrors are the document's, and some numbers that are none of these.
func theErrors() []api.Errno {
	return []api.Errno{
		api.ErrForm, api.ErrMore, api.ErrRange, api.ErrFull, api.ErrDown, api.ErrNone, api.ErrExists, api.ErrCorrupt,
		api.ErrBusy, api.ErrBlocked, api.ErrVictim, api.ErrInvalid, -1, 13, 1 << 32, math.MaxInt64, math.MinInt64,
	}
}

// ground is pages to lie beneath. It hands out the very bytes that it keeps,
// beside an error too, and tells something of every number.
type ground struct {
	pages [96][]byte
	errs  [96]api.Errno
}

func (g *ground) Page(no int) ([]byte, api.Errno) {
	if no < 0 || no > 95 {
		return full('?'), api.OK
	}
	return g.pages[no], g.errs[no]
}

// grown is a ground whose pages all differ.
func grown(seed source) *ground {
	g := &ground{}
	for no := range g.pages {
		g.pages[no] = seed.bytes(256)
	}
	return g
}

// broken is a grown ground on which each page is the error e.
func broken(e api.Errno) *ground {
	g := grown(5)
	for no := range g.errs {
		g.errs[no] = e
	}
	return g
}

// copied is what g has, to be held against what it has later.
func (g *ground) copied() *ground {
	c := *g
	for no, b := range g.pages {
		c.pages[no] = slices.Clone(b)
	}
	return &c
}

func (g *ground) is(o *ground) bool {
	same := g.errs == o.errs
	for no := range g.pages {
		same = same && bytes.Equal(g.pages[no], o.pages[no])
	}
	return same
}

// stays asks that g is as was.
func stays(t *testing.T, what string, g, was *ground) {
	t.Helper()
	if !g.is(was) {
		t.Errorf("%s: what lies beneath is changed", what)
	}
}

// caught calls Must, and answers what it tells or panics with.
func caught(s *Sheet, no int) (b []byte, x any) {
	defer func() { x = recover() }()
	return s.Must(no), nil
}

// shows asks that the page no is want.
func shows(t *testing.T, what string, s *Sheet, no int, want []byte) {
	t.Helper()
	if b, err := s.Page(no); !bytes.Equal(b, want) || err != api.OK {
		t.Errorf("%s: Page(%d) = %.8x.. (%d), %d, want %.8x.. (%d)", what, no, b, len(b), err, want, len(want))
	}
	if b, x := caught(s, no); !bytes.Equal(b, want) || x != nil {
		t.Errorf("%s: Must(%d) = %.8x.. (%d), %v, want %.8x.. (%d)", what, no, b, len(b), x, want, len(want))
	}
}

// fails asks that the page no can't be told, with the error want.
func fails(t *testing.T, what string, s *Sheet, no int, want api.Errno) {
	t.Helper()
	if b, err := s.Page(no); b != nil || err != want {
		t.Errorf("%s: Page(%d) = %d bytes, %d, want the error %d", what, no, len(b), err, want)
	}
	if b, x := caught(s, no); b != nil || x != (guard.Fault{Err: want}) {
		t.Errorf("%s: Must(%d) = %d bytes, breaks with %v, want the error %d", what, no, len(b), x, want)
	}
	came := false
	err := guard.Try(func() {
		s.Must(no)
		came = true
	})
	if err != want || came {
		t.Errorf("%s: Try of Must(%d) = %d, came back %v, want %d", what, no, err, came, want)
	}
}

// asBeneath asks that each page is as g tells it.
func asBeneath(t *testing.T, what string, s *Sheet, g *ground) {
	t.Helper()
	for no := range 96 {
		if g.errs[no] != api.OK {
			fails(t, what, s, no, g.errs[no])
			continue
		}
		shows(t, what, s, no, g.pages[no])
	}
}

// sets asks that Set is OK.
func sets(t *testing.T, what string, s *Sheet, no int, b []byte) {
	t.Helper()
	if err := s.Set(no, b); err != api.OK {
		t.Fatalf("%s: Set(%d): %d", what, no, err)
	}
}

// refuses asks that Set is want.
func refuses(t *testing.T, what string, s *Sheet, no int, b []byte, want api.Errno) {
	t.Helper()
	if err := s.Set(no, b); err != want {
		t.Errorf("%s: Set(%d) of %d bytes: %d, want %d", what, no, len(b), err, want)
	}
}

// told tells changes.
func told(l []api.Image) string {
	s := ""
	for _, x := range l {
		s += fmt.Sprintf("%d=%.8x..(%d) ", x.No, x.B, len(x.B))
	}
	return s
}

func sameImages(a, b []api.Image) bool {
	return slices.EqualFunc(a, b, func(x, y api.Image) bool { return x.No == y.No && bytes.Equal(x.B, y.B) })
}

// changes asks that Changes are want.
func changes(t *testing.T, what string, s *Sheet, want ...api.Image) {
	t.Helper()
	if l := s.Changes(); !sameImages(l, want) {
		t.Errorf("%s: Changes %s, want %s", what, told(l), told(want))
	}
}

// sight is all that a sheet shows.
type sight struct {
	pages   [96][]byte
	errs    [96]api.Errno
	changes []api.Image
}

func see(s *Sheet) sight {
	v := sight{changes: s.Changes()}
	for no := range 96 {
		v.pages[no], v.errs[no] = s.Page(no)
	}
	return v
}

func (v sight) is(o sight) bool {
	same := v.errs == o.errs && sameImages(v.changes, o.changes)
	for no := range v.pages {
		same = same && bytes.Equal(v.pages[no], o.pages[no])
	}
	return same
}

// asBefore asks that s shows what it showed.
func asBefore(t *testing.T, what string, s *Sheet, was sight) {
	t.Helper()
	if now := see(s); !now.is(was) {
		t.Errorf("%s: the sheet shows something else: Changes %s, ahead of it %s", what, told(now.changes), told(was.changes))
	}
}

func TestNew(t *testing.T) {
	mixed := grown(7)
	for no := range 96 {
		if no%3 == 0 {
			mixed.errs[no] = api.Errno(no)
		}
	}
	noughts := &ground{}
	for no := range noughts.pages {
		noughts.pages[no] = full(0)
	}
	for k, g := range []*ground{grown(1), noughts, mixed, broken(api.ErrDown), broken(api.ErrCorrupt)} {
		what := fmt.Sprint("P12.1: New, ", k)
		was := g.copied()
		s := New(g)
		changes(t, what, s)
		asBeneath(t, what, s, g)
		changes(t, what, s)
		stays(t, what, g, was)
	}
}

func TestNewOfNil(t *testing.T) {
	s := New(nil)
	changes(t, "P12.1: New(nil)", s)
	for no := range 96 {
		fails(t, "P12.1: New(nil)", s, no, api.ErrDown)
	}
	changes(t, "P12.1: New(nil)", s)
}

// A nil sheet that lies beneath is pages that tell ErrDown.
func TestNewOfANilSheet(t *testing.T) {
	var none *Sheet
	s := New(none)
	for no := range 96 {
		fails(t, "P12.1: above a nil sheet", s, no, api.ErrDown)
	}
	sets(t, "P12.1: above a nil sheet", s, 4, full(4))
	shows(t, "P12.1: above a nil sheet", s, 4, full(4))
	changes(t, "P12.1: above a nil sheet", s, api.Image{No: 4, B: full(4)})
	fails(t, "P12.1: above a nil sheet", s, 5, api.ErrDown)
}

func TestTwoSheetsShareNothing(t *testing.T) {
	g := grown(3)
	a, b := New(g), New(g)
	if a == b {
		t.Fatal("P12.1: New told one sheet twice")
	}
	was := see(b)
	for no := range 96 {
		sets(t, "one of two", a, no, full(byte(no)))
	}
	asBefore(t, "P0.5: the other one", b, was)
	asBeneath(t, "P0.5: a third one", New(g), g)
}

// Each page is what was set, or as it is beneath, as if no other were there.
func TestPageOfEach(t *testing.T) {
	for no := range 96 {
		g := grown(source(no + 1))
		want := g.copied()
		s := New(g)
		want.pages[no] = full('s')
		sets(t, "P12.1: one page", s, no, full('s'))
		asBeneath(t, "P12.1: one page was set", s, want)
		changes(t, "P12.1: one page", s, api.Image{No: no, B: full('s')})
	}
}

func TestPageOfOtherNumbers(t *testing.T) {
	some := New(grown(2))
	for no := range 96 {
		sets(t, "all pages", some, no, full(byte(no)))
	}
	for k, s := range []*Sheet{New(grown(2)), some, New(&ground{}), New(broken(api.ErrCorrupt)), New(nil), New(New(nil))} {
		was := see(s)
		for _, no := range noPages() {
			fails(t, fmt.Sprint("P12.1: no page, ", k), s, no, api.ErrRange)
		}
		asBefore(t, fmt.Sprint("P12.1: no page, ", k), s, was)
	}
}

// Of a page that was not set it counts what lies beneath when it is asked.
func TestPageOfWhatLiesBeneathNow(t *testing.T) {
	g := grown(4)
	s := New(g)
	sets(t, "one page", s, 6, full(6))
	r := source(9)
	for _, no := range edges() {
		for range 3 {
			g.pages[no] = r.bytes(256)
			shows(t, "P12.1: what lies beneath now", s, no, g.pages[no])
			g.errs[no] = api.ErrBusy
			fails(t, "P12.1: it can't be told", s, no, api.ErrBusy)
			g.errs[no] = api.OK
			shows(t, "P12.1: it can be told again", s, no, g.pages[no])
		}
	}
	g.pages[6] = full(99)
	shows(t, "P12.1: a page that was set", s, 6, full(6))
}

func TestPageOfAnErrorBeneath(t *testing.T) {
	for _, e := range theErrors() {
		for _, no := range edges() {
			g := grown(8)
			g.errs[no] = e
			s := New(g)
			fails(t, "P12.1: an error beneath", s, no, e)
			changes(t, "P12.1: an error beneath", s)
			asBeneath(t, "P12.1: an error beneath", s, g)
			fails(t, "P12.1: an error two sheets beneath", New(New(s)), no, e)
		}
	}
}

// What was set is told, whatever lies beneath.
func TestPageThatWasSetAboveAnError(t *testing.T) {
	for _, e := range theErrors() {
		s := New(broken(e))
		for _, no := range edges() {
			fails(t, "P12.1: ahead of Set", s, no, e)
			sets(t, "above an error", s, no, full(byte(no)))
			shows(t, "P12.1: above an error", s, no, full(byte(no)))
		}
		fails(t, "P12.1: another page", s, 3, e)
		fails(t, "P12.1: another page", s, 93, e)
	}
}

func TestPageThatWasSetAboveNothing(t *testing.T) {
	s := New(nil)
	want := []api.Image{}
	for no := range 96 {
		fails(t, "P12.1: ahead of Set", s, no, api.ErrDown)
		sets(t, "above nothing", s, no, full(byte(no)))
		want = append(want, api.Image{No: no, B: full(byte(no))})
		shows(t, "P12.1: above nothing", s, no, full(byte(no)))
		changes(t, "P12.1: above nothing", s, want...)
	}
	for no := range 96 {
		shows(t, "P12.1: above nothing", s, no, full(byte(no)))
	}
}

// What lies beneath may tell fewer bytes or more: they are told as they are.
func TestPageOfOtherLengthsBeneath(t *testing.T) {
	for _, b := range noTexts() {
		g := grown(6)
		g.pages[31] = b
		s := New(g)
		shows(t, "P0.1: another length beneath", s, 31, b)
		changes(t, "P0.1: another length beneath", s)
		sets(t, "above another length", s, 31, full(1))
		shows(t, "P12.1: above another length", s, 31, full(1))
		changes(t, "P12.1: above another length", s, api.Image{No: 31, B: full(1)})
	}
	for _, n := range []int{0, 255, 257} {
		g := grown(6)
		g.pages[31] = make([]byte, n)
		s := New(g)
		sets(t, "above noughts", s, 31, full(0))
		changes(t, "P12.1: above noughts of another length", s, api.Image{No: 31, B: full(0)})
	}
}

func TestPageIsNew(t *testing.T) {
	g := grown(10)
	s := New(g)
	sets(t, "one page", s, 5, full(5))
	was, seen := g.copied(), see(s)
	for _, no := range []int{5, 0, 6, 95} {
		a, _ := s.Page(no)
		b, _ := s.Page(no)
		c, d := s.Must(no), s.Must(no)
		spoil(a)
		shows(t, "P0.3: a Page is written into", s, no, seen.pages[no])
		spoil(c)
		if !bytes.Equal(b, seen.pages[no]) || !bytes.Equal(d, seen.pages[no]) {
			t.Errorf("P0.3: two answers of the page %d share memory", no)
		}
		shows(t, "P0.3: a Must is written into", s, no, seen.pages[no])
	}
	stays(t, "P0.3: answers are written into", g, was)
	asBefore(t, "P0.3: answers are written into", s, seen)
}

// An answer told before stays as it is, whatever is set or changed beneath.
func TestAnswersStay(t *testing.T) {
	g := grown(11)
	s := New(g)
	sets(t, "one page", s, 5, full(5))
	a, _ := s.Page(5)
	b, _ := s.Page(6)
	c, d, l := s.Must(5), s.Must(6), s.Changes()
	wasB := slices.Clone(b)
	for _, no := range []int{5, 6} {
		sets(t, "set again", s, no, full('x'))
		spoil(g.pages[no])
	}
	if !bytes.Equal(a, full(5)) || !bytes.Equal(c, full(5)) || !bytes.Equal(b, wasB) || !bytes.Equal(d, wasB) {
		t.Error("P0.3: what Page told is changed later")
	}
	if !sameImages(l, []api.Image{{No: 5, B: full(5)}}) {
		t.Errorf("P0.3: what Changes told is changed later: %s", told(l))
	}
}

func TestSetOfOtherLengths(t *testing.T) {
	g := grown(12)
	s := New(g)
	sets(t, "one page", s, 31, full(31))
	was, seen := g.copied(), see(s)
	for _, b := range noTexts() {
		kept := slices.Clone(b)
		for _, no := range append(edges(), noPages()...) {
			refuses(t, "P12.1: another length", s, no, b, api.ErrForm)
			refuses(t, "P12.1: another length above nothing", New(nil), no, b, api.ErrForm)
		}
		if !bytes.Equal(b, kept) {
			t.Errorf("P0.3: a text of %d bytes is changed", len(b))
		}
		asBefore(t, "P12.1: behind ErrForm", s, seen)
	}
	stays(t, "P12.1: behind ErrForm", g, was)
}

func TestSetOfOtherNumbers(t *testing.T) {
	g := grown(13)
	s := New(g)
	sets(t, "one page", s, 95, full(95))
	was, seen := g.copied(), see(s)
	for _, no := range noPages() {
		refuses(t, "P12.1: no page", s, no, full('n'), api.ErrRange)
		refuses(t, "P12.1: no page above nothing", New(nil), no, full('n'), api.ErrRange)
		refuses(t, "P12.1: no page above an error", New(broken(api.ErrBusy)), no, full('n'), api.ErrRange)
		asBefore(t, "P12.1: behind ErrRange", s, seen)
	}
	stays(t, "P12.1: behind ErrRange", g, was)
}

// A sheet on which nothing was set is as it was behind an error, too.
func TestSetThatFailsSetsNothing(t *testing.T) {
	for _, g := range []*ground{grown(14), broken(api.ErrNone)} {
		s := New(g)
		for _, b := range noTexts() {
			refuses(t, "P12.1", s, 2, b, api.ErrForm)
		}
		for _, no := range noPages() {
			refuses(t, "P12.1", s, no, full(2), api.ErrRange)
		}
		changes(t, "P12.1: behind errors", s)
		asBeneath(t, "P12.1: behind errors", s, g)
	}
}

func TestSetTakesACopy(t *testing.T) {
	for _, spare := range []int{0, 1, 256, 1000} {
		s := New(grown(15))
		for _, no := range edges() {
			own := append(make([]byte, 0, 256+spare), full(byte(no))...)
			whole := own[:cap(own)]
			copy(whole[256:], bytes.Repeat([]byte{'r'}, spare))
			kept := slices.Clone(whole)
			sets(t, "own bytes", s, no, own)
			shows(t, "P12.1: what was set", s, no, full(byte(no)))
			if !bytes.Equal(whole, kept) {
				t.Errorf("P0.3: what is handed in is changed")
			}
			spoil(own)
			shows(t, "P0.3: what was handed in is written into", s, no, full(byte(no)))
		}
		for _, x := range s.Changes() {
			if !bytes.Equal(x.B, full(byte(x.No))) {
				t.Errorf("P0.3: what was handed in is written into: Changes %d=%.8x", x.No, x.B)
			}
		}
	}
}

// Bytes that were set for two pages are two pages.
func TestSetOfTheSameBytes(t *testing.T) {
	s := New(grown(16))
	own := full('a')
	sets(t, "the same bytes", s, 1, own)
	sets(t, "the same bytes", s, 2, own)
	copy(own, full('b'))
	sets(t, "the same bytes", s, 3, own)
	l := s.Changes()
	if !sameImages(l, []api.Image{{No: 1, B: full('a')}, {No: 2, B: full('a')}, {No: 3, B: full('b')}}) {
		t.Fatalf("P12.1: Changes %s", told(l))
	}
	spoil(l[0].B)
	shows(t, "P0.3: Changes are written into", s, 1, full('a'))
	shows(t, "P0.3: Changes are written into", s, 2, full('a'))
	if !bytes.Equal(l[1].B, full('a')) {
		t.Error("P0.3: two pages of one answer share memory")
	}
}

// A page may be set with what the sheet, or what lies beneath, told of it.
func TestSetOfWhatWasTold(t *testing.T) {
	g := grown(17)
	was := g.copied()
	s := New(g)
	for _, no := range edges() {
		b, _ := s.Page(no)
		b[7]++
		sets(t, "what was told", s, no, b)
		b[8]++
		want := slices.Clone(was.pages[no])
		want[7]++
		shows(t, "P12.1: what was told", s, no, want)
	}
	sets(t, "beneath's own memory", s, 50, g.pages[50])
	stays(t, "P0.3: beneath", g, was)
	spoil(g.pages[50])
	shows(t, "P0.3: beneath's own memory", s, 50, was.pages[50])
}

func TestSetTwice(t *testing.T) {
	g := grown(18)
	was := g.copied()
	s := New(g)
	for _, no := range edges() {
		for _, x := range []byte{1, 2, 2, 0, 255, 1} {
			sets(t, "again", s, no, full(x))
			shows(t, "P12.1: set again", s, no, full(x))
		}
		if l := s.Changes(); len(l) == 0 || !bytes.Equal(l[len(l)-1].B, full(1)) || l[len(l)-1].No != no {
			t.Errorf("P12.1: the page %d, set again: Changes %s", no, told(l))
		}
	}
	stays(t, "P12.1: set again", g, was)
}

// order is the numbers 0 to n - 1 in some order.
func order(r *source, n int) []int {
	l := []int{}
	for i := range n {
		l = slices.Insert(l, r.below(i+1), i)
	}
	return l
}

func TestSetOfAllPages(t *testing.T) {
	r := source(19)
	up := order(&r, 96)
	slices.Sort(up)
	down := slices.Clone(up)
	slices.Reverse(down)
	for k, l := range [][]int{up, down, order(&r, 96), order(&r, 96)} {
		g := grown(20)
		was := g.copied()
		s := New(g)
		want := make([]api.Image, 96)
		for _, no := range l {
			want[no] = api.Image{No: no, B: r.bytes(256)}
			sets(t, "all", s, no, want[no].B)
		}
		for no := range 96 {
			shows(t, fmt.Sprint("P12.1: all, ", k), s, no, want[no].B)
		}
		changes(t, fmt.Sprint("P12.1: all, ", k), s, want...)
		stays(t, fmt.Sprint("P12.1: all, ", k), g, was)
	}
}

func TestChangesAreRising(t *testing.T) {
	r := source(21)
	for range 40 {
		s := New(grown(22))
		want := []api.Image{}
		for _, no := range order(&r, 96)[:1+r.below(30)] {
			x := api.Image{No: no, B: r.bytes(256)}
			sets(t, "some", s, no, x.B)
			want = append(want, x)
		}
		slices.SortFunc(want, func(a, b api.Image) int { return a.No - b.No })
		changes(t, "P12.1: some", s, want...)
	}
}

// A page differs, wherever the byte stands that does.
func TestChangesOfOneByte(t *testing.T) {
	g := grown(23)
	for i := range 256 {
		s := New(g)
		b := slices.Clone(g.pages[40])
		b[i] ^= 1 << (i % 8)
		sets(t, "one byte", s, 40, b)
		changes(t, fmt.Sprint("P12.1: the byte ", i), s, api.Image{No: 40, B: b})
		b[i] ^= 1 << (i % 8)
		sets(t, "one byte back", s, 40, b)
		changes(t, fmt.Sprint("P12.1: the byte ", i, " is back"), s)
	}
}

func TestChangesOfWhatWasSetBack(t *testing.T) {
	g := grown(24)
	s := New(g)
	for _, no := range edges() {
		sets(t, "as it was", s, no, g.pages[no])
		changes(t, "P12.1: set to what it was", s)
		shows(t, "P12.1: set to what it was", s, no, g.pages[no])
		sets(t, "changed", s, no, full('c'))
		changes(t, "P12.1: changed", s, api.Image{No: no, B: full('c')})
		sets(t, "set back", s, no, g.pages[no])
		changes(t, "P12.1: set back", s)
		shows(t, "P12.1: set back", s, no, g.pages[no])
	}
}

// Whatever was set is a change, where what lies beneath can't be read.
func TestChangesAboveAnError(t *testing.T) {
	for _, e := range theErrors() {
		g := grown(25)
		s := New(g)
		want := []api.Image{}
		for _, no := range edges() {
			sets(t, "as it was", s, no, g.pages[no])
			changes(t, "P12.1: ahead of the error", s, want...)
			g.errs[no] = e
			want = append(want, api.Image{No: no, B: slices.Clone(g.pages[no])})
			changes(t, "P12.1: above an error", s, want...)
		}
		g.errs[50] = e
		changes(t, "P12.1: an error of another page", s, want...)
		g.errs = [96]api.Errno{}
		changes(t, "P12.1: behind the error", s)
	}
}

// Where what lies beneath tells nothing beside an error, noughts are a change
// too, and so is each other page.
func TestChangesAboveAnErrorWithoutBytes(t *testing.T) {
	g := broken(api.ErrNone)
	g.pages = [96][]byte{}
	for _, s := range []*Sheet{New(g), New(nil), New(New(nil)), New((*Sheet)(nil))} {
		changes(t, "P12.1: nothing beneath", s)
		sets(t, "nothing beneath", s, 0, full(0))
		sets(t, "nothing beneath", s, 95, full(1))
		changes(t, "P12.1: nothing beneath", s, api.Image{No: 0, B: full(0)}, api.Image{No: 95, B: full(1)})
	}
}

// What lies beneath when Changes is asked says what is a change.
func TestChangesOfWhatLiesBeneathNow(t *testing.T) {
	g := grown(26)
	s := New(g)
	first, x := slices.Clone(g.pages[31]), api.Image{No: 31, B: full('x')}
	sets(t, "one page", s, 31, x.B)
	changes(t, "P12.1: set", s, x)
	g.pages[31] = full('x')
	changes(t, "P12.1: beneath it is so too", s)
	shows(t, "P12.1: beneath it is so too", s, 31, x.B)
	g.pages[31] = full('y')
	changes(t, "P12.1: beneath it is another", s, x)
	g.pages[31] = first
	changes(t, "P12.1: beneath it is as it was", s, x)
	g.pages[30] = full('z')
	changes(t, "P12.1: beneath another page is changed", s, x)
	sets(t, "set back", s, 31, first)
	changes(t, "P12.1: set back", s)
	g.pages[31] = full('y')
	changes(t, "P12.1: beneath it is changed", s, api.Image{No: 31, B: first})
}

func TestChangesAreNew(t *testing.T) {
	g := grown(27)
	s := New(g)
	for _, no := range []int{3, 4, 90} {
		sets(t, "some", s, no, full(byte(no)))
	}
	was, seen := g.copied(), see(s)
	a, b := s.Changes(), s.Changes()
	if !sameImages(a, seen.changes) || !sameImages(b, seen.changes) {
		t.Fatalf("P0.5: asked again: %s, %s", told(a), told(b))
	}
	for i := range a {
		spoil(a[i].B)
		a[i].No = 77
		for k := range b {
			if !bytes.Equal(b[k].B, seen.changes[k].B) || k > i && !bytes.Equal(a[k].B, seen.changes[k].B) {
				t.Errorf("P0.3: the bytes of the change %d are shared", k)
			}
		}
	}
	for l := a[:cap(a)]; len(l) > 0; l = l[1:] {
		l[0] = api.Image{No: -5}
	}
	if !sameImages(b, seen.changes) {
		t.Errorf("P0.3: two answers share memory: %s", told(b))
	}
	asBefore(t, "P0.3: Changes are written into", s, seen)
	stays(t, "P0.3: Changes are written into", g, was)
}

// Page, Changes and Must change nothing.
func TestAskingChangesNothing(t *testing.T) {
	g := grown(28)
	g.errs[60], g.errs[61] = api.ErrFull, api.ErrFull
	s := New(g)
	for _, no := range []int{0, 31, 60} {
		sets(t, "some", s, no, full('q'))
	}
	sets(t, "as it was", s, 32, g.pages[32])
	was, seen := g.copied(), see(s)
	for range 3 {
		for no := -3; no < 100; no++ {
			s.Page(no)
			caught(s, no)
			guard.Try(func() { s.Must(no) })
		}
		s.Changes()
		asBefore(t, "P0.5: asked again", s, seen)
	}
	stays(t, "P0.5: asked again", g, was)
}

func TestMustOfEachError(t *testing.T) {
	for _, e := range theErrors() {
		s := New(broken(e))
		for _, no := range edges() {
			if b, x := caught(s, no); b != nil || x != (guard.Fault{Err: e}) {
				t.Errorf("P12.1: Must(%d) = %d bytes, breaks with %v, want %d", no, len(b), x, e)
			}
			reached := 0
			err := guard.Try(func() {
				reached++
				s.Must(no)
				reached++
			})
			if err != e || reached != 1 {
				t.Errorf("P12.1: Try of Must(%d) = %d, reached %d, want %d", no, err, reached, e)
			}
		}
	}
}

func TestANilSheet(t *testing.T) {
	var s *Sheet
	for _, no := range append(edges(), noPages()...) {
		fails(t, "P12.1: nil", s, no, api.ErrDown)
		refuses(t, "P12.1: nil", s, no, full(1), api.ErrDown)
		for _, b := range noTexts() {
			refuses(t, "P12.1: nil", s, no, b, api.ErrDown)
		}
	}
	changes(t, "P12.1: nil", s)
}

// A sheet that New did not make has nothing beneath.
func TestASheetOfNoNew(t *testing.T) {
	s := &Sheet{}
	changes(t, "P0.1", s)
	fails(t, "P0.1", s, 3, api.ErrDown)
	fails(t, "P0.1", s, 96, api.ErrRange)
	sets(t, "P0.1", s, 3, full(3))
	shows(t, "P0.1", s, 3, full(3))
	changes(t, "P0.1", s, api.Image{No: 3, B: full(3)})
}
