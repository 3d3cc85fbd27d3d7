package alloc

import (
	"bytes"
	"fmt"
	"slices"
	"testing"

	"engross/api"
	"engross/sheet"
)

// asked calls all that only reads.
func asked(p sheet.Pages) string {
	no, err := Root(p)
	s := fmt.Sprintln(no, err)
	for _, no := range append(noBit(), all()...) {
		is, err := Used(p, no)
		s += fmt.Sprintln(is, err)
	}
	n, err := Count(p)
	return s + fmt.Sprintln(n, err)
}

func TestWhatIsAskedStaysAsItIs(t *testing.T) {
	for k := source(1); k <= 40; k++ {
		g := grown(k)
		g.pages[1][4] = byte(k)
		s := sheet.New(grown(k))
		s.Set(1, g.pages[1])
		s.Set(7, g.pages[8])
		for _, p := range []sheet.Pages{g, s, sheet.New(g), sheet.New(s)} {
			was := see(p)
			first := asked(p)
			stays(t, "P0.5: what was asked", p, was)
			if again := asked(p); again != first {
				t.Errorf("P0.5: asked again: %s, at first %s", again, first)
			}
			stays(t, "P0.5: what was asked again", p, was)
		}
		if l := s.Changes(); len(l) != 2 {
			t.Errorf("P0.5: what was asked has %d changes", len(l))
		}
	}
}

// What a sheet lies above is not written into, though it hands out its own
// memory.
func TestWhatLiesBeneathStaysAsItIs(t *testing.T) {
	g := grown(41).with(2, 3, 5)
	was := see(g)
	s := sheet.New(g)
	for range 27 {
		Take(s)
	}
	takes(t, "P13.1: full", s, 0, api.ErrFull)
	for no := 2; no <= 31; no++ {
		frees(t, "P13.1: of all", s, no, api.OK)
	}
	begins(t, "P13.1: of all", s, 9, api.OK)
	stays(t, "P0.5: what lies beneath", g, was)
}

// changes asks that just the pages of l are s's changes.
func changes(t *testing.T, what string, s *sheet.Sheet, l ...int) {
	t.Helper()
	var got []int
	for _, x := range s.Changes() {
		got = append(got, x.No)
	}
	if !slices.Equal(got, l) {
		t.Errorf("%s: the changes are of %d, want %d", what, got, l)
	}
}

func TestASheetAboveASheet(t *testing.T) {
	g := grown(42).with(2, 4)
	g.pages[1][4] = 2
	low := sheet.New(g)
	takes(t, "P13.1: low", low, 3, api.OK)
	changes(t, "P13.1: low", low, 1, 3)
	was := see(low)

	high := sheet.New(low)
	inUse(t, "P13.1: high", high, []int{2, 3, 4})
	changes(t, "P13.1: high, as beneath", high)
	takes(t, "P13.1: high", high, 5, api.OK)
	takes(t, "P13.1: high", high, 6, api.OK)
	changes(t, "P13.1: high, taken", high, 1, 5, 6)
	frees(t, "P13.1: high", high, 3, api.OK)
	changes(t, "P13.1: high, freed", high, 1, 5, 6)
	begins(t, "P13.1: high", high, 6, api.OK)
	inUse(t, "P13.1: high", high, []int{2, 4, 5, 6})
	root(t, "P13.1: high", high, 6, api.OK)
	changes(t, "P13.1: high, set", high, 1, 5, 6)

	stays(t, "P13.1: low", low, was)
	inUse(t, "P13.1: low", low, []int{2, 3, 4})
	root(t, "P13.1: low", low, 2, api.OK)

	// The page 3 is noughts beneath: taken again it is as there.
	takes(t, "P13.1: high", high, 3, api.OK)
	changes(t, "P13.1: high, as beneath", high, 1, 5, 6)
}

func TestChangesAreNotWhatLiesBeneath(t *testing.T) {
	g := grown(43).with(2)
	g.pages[3] = zero()
	g.pages[1][4] = 2
	s := sheet.New(g)
	takes(t, "P13.1: noughts beneath", s, 3, api.OK)
	changes(t, "P13.1: noughts beneath", s, 1)
	takes(t, "P13.1: no noughts beneath", s, 4, api.OK)
	changes(t, "P13.1: no noughts beneath", s, 1, 4)
	frees(t, "P13.1: freed", s, 3, api.OK)
	frees(t, "P13.1: freed", s, 4, api.OK)
	changes(t, "P13.1: the page 1 is as beneath", s, 4)
	begins(t, "P13.1: as beneath", s, 2, api.OK)
	changes(t, "P13.1: the page 1 is as beneath", s, 4)
	begins(t, "P13.1: another", s, 0, api.OK)
	changes(t, "P13.1: another first page", s, 1, 4)
}

// The upper one's changes, set into the lower one, make both alike.
func TestChangesSayAllThatWasDone(t *testing.T) {
	for k := source(1); k <= 40; k++ {
		r := k
		low := sheet.New(grown(k))
		high := sheet.New(low)
		for range 1 + r.below(40) {
			switch r.below(3) {
			case 0:
				Free(high, r.below(32))
			case 1:
				SetRoot(high, r.below(32))
			default:
				Take(high)
			}
		}
		was := see(high)
		for _, x := range high.Changes() {
			low.Set(x.No, x.B)
		}
		stays(t, "P13.1: the lower one", low, was)
		if asked(low) != asked(high) {
			t.Errorf("P13.1: %d: asked, both are not alike", k)
		}
	}
}

// plain is the pages in use as the chapter tells it, done in the simplest way.
type plain struct {
	used  [32]bool
	root  int
	fault api.Errno
	pages sight
}

func (p *plain) count() int {
	n := 0
	for _, is := range p.used {
		if is {
			n++
		}
	}
	return n
}

func (p *plain) take() (int, api.Errno) {
	for no := 2; no < 32; no++ {
		if !p.used[no] {
			p.used[no] = true
			p.pages = p.pages.bits(true, no).but(no, zero())
			return no, api.OK
		}
	}
	return 0, api.ErrFull
}

func (p *plain) free(no int) api.Errno {
	if no < 2 || no > 31 || !p.used[no] {
		return api.ErrNone
	}
	p.used[no] = false
	p.pages = p.pages.bits(false, no)
	return api.OK
}

func (p *plain) setRoot(no int) api.Errno {
	if no < 0 || no == 1 || no > 31 {
		return api.ErrRange
	}
	p.root, p.fault = no, api.OK
	p.pages = p.pages.root(byte(no))
	return api.OK
}

// plainOf is the plain one of s, bit by bit.
func plainOf(s *sheet.Sheet) *plain {
	p := &plain{pages: see(s)}
	b := p.pages.pages[1]
	for no := 2; no < 32; no++ {
		i, x := bitOf(no)
		p.used[no] = b[i]/x%2 == 1
	}
	p.root = int(b[4])
	if p.root == 1 || p.root > 31 {
		p.root, p.fault = 0, api.ErrRange
	}
	return p
}

// alike asks that s tells what p does.
func alike(t *testing.T, what string, s *sheet.Sheet, p *plain) {
	t.Helper()
	root(t, what, s, p.root, p.fault)
	for no := -1; no < 34; no++ {
		want := no >= 0 && no < 32 && p.used[no]
		if is, err := Used(s, no); is != want || err != api.OK {
			t.Errorf("%s: Used(%d) = %v, %d, want %v", what, no, is, err, want)
		}
	}
	if n, err := Count(s); n != p.count() || err != api.OK {
		t.Errorf("%s: Count = %d, %d, want %d", what, n, err, p.count())
	}
}

// step does one step on s and on the plain one.
func step(t *testing.T, what string, s *sheet.Sheet, p *plain, r *source) {
	t.Helper()
	no := r.below(40) - 4
	switch r.below(8) {
	case 0:
		begins(t, what, s, no, p.setRoot(no))
	case 1:
		page, b := 2+r.below(94), bytes.Repeat([]byte{byte(r.below(256))}, 256)
		s.Set(page, b)
		p.pages = p.pages.but(page, b)
	case 2, 3, 4:
		frees(t, what, s, no, p.free(no))
	default:
		want, fault := p.take()
		takes(t, what, s, want, fault)
	}
}

func TestWalk(t *testing.T) {
	for k := source(1); k <= 150; k++ {
		r := k
		g := grown(k)
		if k%3 == 0 {
			g.with()
		}
		low := sheet.New(g)
		high := sheet.New(low)
		p := plainOf(high)
		for range 120 {
			step(t, fmt.Sprint("P13.1: walk ", k), high, p, &r)
		}
		alike(t, fmt.Sprint("P13.1: walk ", k), high, p)
		stays(t, fmt.Sprint("P13.1: walk ", k), high, p.pages)
		alike(t, fmt.Sprint("P13.1: beneath walk ", k), low, plainOf(sheet.New(g)))
		changes(t, fmt.Sprint("P13.1: beneath walk ", k), low)
	}
}
