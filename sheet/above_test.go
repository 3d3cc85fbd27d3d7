package sheet

import (
	"bytes"
	"fmt"
	"slices"
	"testing"

	"engross/api"
)

func TestASheetAboveASheet(t *testing.T) {
	g := grown(31)
	was := g.copied()
	low := New(g)
	sets(t, "low", low, 5, full('l'))
	sets(t, "low", low, 6, full('l'))
	seen := see(low)
	high := New(low)
	asBefore(t, "P12.1: a new one above", low, seen)
	for no := range 96 {
		shows(t, "P12.1: a new one above", high, no, seen.pages[no])
	}
	changes(t, "P12.1: a new one above", high)

	sets(t, "high", high, 6, full('h'))
	sets(t, "high", high, 7, full('h'))
	sets(t, "high", high, 8, g.pages[8])
	sets(t, "high", high, 5, g.pages[5])
	changes(t, "P12.1: above", high,
		api.Image{No: 5, B: was.pages[5]}, api.Image{No: 6, B: full('h')}, api.Image{No: 7, B: full('h')})
	asBefore(t, "P12.1: the lower one", low, seen)
	stays(t, "P12.1: the ground", g, was)

	sets(t, "low", low, 6, full('h'))
	sets(t, "low", low, 9, full('n'))
	shows(t, "P12.1: set below", high, 9, full('n'))
	shows(t, "P12.1: set on both", high, 6, full('h'))
	shows(t, "P12.1: set above", high, 5, was.pages[5])
	changes(t, "P12.1: set below", high, api.Image{No: 5, B: was.pages[5]}, api.Image{No: 7, B: full('h')})
	changes(t, "P12.1: the lower one", low,
		api.Image{No: 5, B: full('l')}, api.Image{No: 6, B: full('h')}, api.Image{No: 9, B: full('n')})
}

// What the upper sheet tells, as what is handed to it, shares nothing with the
// lower one.
func TestASheetAboveASheetSharesNothing(t *testing.T) {
	low := New(grown(32))
	sets(t, "low", low, 5, full('l'))
	high := New(low)
	sets(t, "high", high, 6, full('h'))
	seenLow, seenHigh := see(low), see(high)
	for no := range 96 {
		b, _ := high.Page(no)
		spoil(b)
		spoil(high.Must(no))
		b, _ = low.Page(no)
		spoil(b)
	}
	for _, x := range append(high.Changes(), low.Changes()...) {
		spoil(x.B)
	}
	asBefore(t, "P0.3: the lower one", low, seenLow)
	asBefore(t, "P0.3: the upper one", high, seenHigh)
}

func TestASheetAboveAnErrorAboveASheet(t *testing.T) {
	g := grown(33)
	g.errs[40] = api.ErrInvalid
	low := New(g)
	high := New(low)
	fails(t, "P12.1: both", high, 40, api.ErrInvalid)
	sets(t, "high", high, 40, full(0))
	changes(t, "P12.1: above", high, api.Image{No: 40, B: full(0)})
	fails(t, "P12.1: the lower one", low, 40, api.ErrInvalid)
	sets(t, "low", low, 40, full(0))
	changes(t, "P12.1: the lower one can tell it", high)
	changes(t, "P12.1: the lower one", low, api.Image{No: 40, B: full(0)})
}

// The upper one's Changes, set into the lower one, make both alike.
func TestChangesMakeBothAlike(t *testing.T) {
	r := source(34)
	for k := range 60 {
		g := grown(source(k + 1))
		for range r.below(5) {
			g.errs[r.below(96)] = api.ErrCorrupt
		}
		was := g.copied()
		low := New(g)
		scatter(t, low, &r, g)
		high := New(low)
		scatter(t, high, &r, g)
		seen := see(high)
		for _, x := range high.Changes() {
			sets(t, "set into the lower one", low, x.No, x.B)
			spoil(x.B)
		}
		seen.changes = nil
		asBefore(t, fmt.Sprint("P12.1: the upper one, ", k), high, seen)
		for no := range 96 {
			b, err := low.Page(no)
			if !bytes.Equal(b, seen.pages[no]) || err != seen.errs[no] {
				t.Errorf("P12.1: %d: the page %d of the lower one: %.8x, %d, want %.8x, %d", k, no, b, err, seen.pages[no], seen.errs[no])
			}
		}
		stays(t, fmt.Sprint("P12.1: the ground, ", k), g, was)
	}
}

// scatter sets some pages of s, some of them to what g has.
func scatter(t *testing.T, s *Sheet, r *source, g *ground) {
	t.Helper()
	for range r.below(60) {
		no := r.below(96)
		b := full(byte(r.below(3)))
		if r.below(3) == 0 {
			b = g.pages[no]
		}
		sets(t, "scatter", s, no, b)
	}
}

func TestManySheetsAboveEachOther(t *testing.T) {
	g := grown(35)
	l := []*Sheet{New(g)}
	for i := 1; i < 500; i++ {
		l = append(l, New(l[i-1]))
	}
	for i, s := range l {
		sets(t, "many", s, i%96, full(byte(i)))
	}
	want := g.copied()
	for i, s := range l {
		want.pages[i%96] = full(byte(i))
		if i%50 == 0 || i == 499 {
			asBeneath(t, "P12.1: many", s, want)
		}
		changes(t, "P12.1: many", s, api.Image{No: i % 96, B: full(byte(i))})
	}
	g.errs[10] = api.ErrDown
	shows(t, "P12.1: many", l[499], 10, want.pages[10])
	fails(t, "P12.1: many", l[9], 10, api.ErrDown)
}

// plain is a sheet as the chapter tells it, done in the simplest way.
type plain struct {
	low *plain
	g   *ground
	set map[int][]byte
}

func (p *plain) page(no int) ([]byte, api.Errno) {
	if b, ok := p.set[no]; ok {
		return b, api.OK
	}
	if p.low != nil {
		return p.low.page(no)
	}
	if p.g == nil {
		return nil, api.ErrDown
	}
	if e := p.g.errs[no]; e != api.OK {
		return nil, e
	}
	return p.g.pages[no], api.OK
}

func (p *plain) sight() sight {
	v := sight{}
	under := plain{low: p.low, g: p.g}
	for no := range 96 {
		v.pages[no], v.errs[no] = p.page(no)
		b, err := under.page(no)
		if mine, ok := p.set[no]; ok && (err != api.OK || !bytes.Equal(b, mine)) {
			v.changes = append(v.changes, api.Image{No: no, B: mine})
		}
	}
	return v
}

// walk does some steps on three sheets above each other and on the plain ones.
func walk(t *testing.T, seed source, g *ground) {
	r := seed
	sheets, plains := []*Sheet{New(nil)}, []*plain{{set: map[int][]byte{}}}
	if g != nil {
		sheets[0], plains[0].g = New(g), g
	}
	for i := range 2 {
		sheets = append(sheets, New(sheets[i]))
		plains = append(plains, &plain{low: plains[i], set: map[int][]byte{}})
	}
	for range 150 {
		i, no, b := r.below(3), r.below(96), full(byte(r.below(3)))
		switch r.below(8) {
		case 0:
			refuses(t, "walk", sheets[i], no, b[:r.below(256)], api.ErrForm)
			refuses(t, "walk", sheets[i], -1-no, b, api.ErrRange)
			refuses(t, "walk", sheets[i], 96+no, b, api.ErrRange)
		case 1, 2:
			if g != nil {
				g.pages[no], g.errs[no] = b, api.Errno(r.below(2)*r.below(13))
			}
		default:
			plains[i].set[no] = slices.Clone(b)
			sets(t, "walk", sheets[i], no, b)
			spoil(b)
		}
	}
	for i, s := range sheets {
		asBefore(t, fmt.Sprint("P12.1: walk ", seed, ", sheet ", i), s, plains[i].sight())
		for no := range 96 {
			if b, err := plains[i].page(no); err == api.OK {
				shows(t, "P12.1: walk", s, no, b)
			} else {
				fails(t, "P12.1: walk", s, no, err)
			}
		}
	}
}

func TestWalk(t *testing.T) {
	for k := source(1); k <= 60; k++ {
		walk(t, k, grown(k))
		walk(t, k, nil)
	}
}
