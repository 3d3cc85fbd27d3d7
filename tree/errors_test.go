package tree

import (
	"fmt"
	"math"
	"slices"
	"testing"

	"engross/api"
	"engross/cell"
	"engross/sheet"
)

// theErrors are the document's, and some numbers that are none of these.
func theErrors() []api.Errno {
	return []api.Errno{
		api.ErrForm, api.ErrMore, api.ErrRange, api.ErrFull, api.ErrDown, api.ErrNone, api.ErrExists, api.ErrCorrupt,
		api.ErrBusy, api.ErrBlocked, api.ErrVictim, api.ErrInvalid, -1, 13, 1 << 32, math.MaxInt64, math.MinInt64,
	}
}

func TestNoPages(t *testing.T) {
	var none *sheet.Sheet
	told(t, "no sheet", none, "a", api.ErrDown)
	told(t, "a sheet above nothing", sheet.New(nil), "a", api.ErrDown)
	told(t, "a sheet above no sheet", sheet.New(none), "a", api.ErrDown)
	told(t, "a sheet above a sheet above nothing", sheet.New(sheet.New(nil)), "a", api.ErrDown)
	for _, k := range []string{"", "a"} {
		if c, is, err := Get(nil, k); is || !same(c, cell.Cell{}) || err != api.ErrDown {
			t.Errorf("P14.2: Get(nil, %q) = %v, %v, %d, want ErrDown", k, c, is, err)
		}
		if l, err := Scan(nil, "b", k); len(l) > 0 || err != api.ErrDown {
			t.Errorf("P14.2: Scan(nil, b, %q) = %v, %d, want ErrDown", k, l, err)
		}
		if had, err := Del(nil, k); had || err != api.ErrDown {
			t.Errorf("P14.2: Del(nil, %q) = %v, %d, want ErrDown", k, had, err)
		}
	}
	if err := Check(nil); err != api.ErrDown {
		t.Errorf("P14.2: Check(nil) = %d, want ErrDown", err)
	}
	if l, err := Pages(nil); len(l) > 0 || err != api.ErrDown {
		t.Errorf("P14.2: Pages(nil) = %v, %d, want ErrDown", l, err)
	}
	if err := Put(nil, cellOf("a", "v")); err != api.ErrDown {
		t.Errorf("P14.2: Put(nil) = %d, want ErrDown", err)
	}
}

// The page 1 is set, but what lies beneath is nothing.
func TestNothingBeneath(t *testing.T) {
	g := ready(2, three())
	s := sheet.New(nil)
	s.Set(1, g.pages[1])
	told(t, "the page 1 alone", s, "a", api.ErrDown)
	for no := 2; no <= 8; no++ {
		s.Set(no, g.pages[no])
	}
	m := plainOf(g)
	whole(t, "all pages of the tree, and nothing beneath", s, m)
	for i := range 40 {
		puts(t, "nothing beneath", s, m, longest(name16(i)))
	}
	for k := range plainOf(g) {
		dels(t, "nothing beneath", s, m, k)
	}
	if v := studied(s); v.wrong != "" || !slices.EqualFunc(v.cells, m.cells(), same) {
		t.Errorf("P14.1: nothing beneath: %v, %s", v.cells, v.wrong)
	}
}

func TestErrorsOfThePage1(t *testing.T) {
	for _, err := range theErrors() {
		for _, g := range []*ground{noughts(), ready(2, three())} {
			g.errs[1] = err
			told(t, fmt.Sprint("the page 1 tells ", err), g, "a", err)
			told(t, fmt.Sprint("the page 1 tells ", err), sheet.New(g), "a", err)
		}
	}
}

// Each page's error is told by each call that needs the page, and by no other
// one.
func TestErrorsOfAPage(t *testing.T) {
	for seed := range 6 {
		r := seeded(seed)
		right := ready(2, three())
		if seed > 0 {
			right = planted(r, 1+r.below(4), 3, shortest)
		}
		m := plainOf(right)
		for i, no := range studied(right).pages {
			err := theErrors()[(seed*7+i)%len(theErrors())]
			what := fmt.Sprintf("%d: the page %d tells %d", seed, no, err)
			g := copied(right)
			g.errs[no] = err
			for _, c := range m.cells() {
				failsIfAsked(t, what, right, g, no, c.Key, err)
			}
			if e := Check(g); e != err {
				t.Errorf("P14.2: %s: Check = %d", what, e)
			}
			if l, e := Pages(g); len(l) > 0 || e != err {
				t.Errorf("P14.2: %s: Pages = %v, %d", what, l, e)
			}
			if l, e := Scan(g, "", ""); len(l) > 0 || e != err {
				t.Errorf("P14.2: %s: Scan = %v, %d", what, l, e)
			}
		}
	}
}

// failsIfAsked asks that calls of k on g, whose page no tells err, tell that
// if the same call on pages that are right needs the page.
func failsIfAsked(t *testing.T, what string, right, g *ground, no int, k string, err api.Errno) {
	t.Helper()
	if slices.Contains(wayTo(right, k), no) {
		if c, is, e := Get(g, k); is || !same(c, cell.Cell{}) || e != err {
			t.Errorf("P14.2: %s: Get(%q) = %v, %v, %d", what, k, c, is, e)
		}
		if l, e := Scan(g, k, k+"\x00"); len(l) > 0 || e != err {
			t.Errorf("P14.2: %s: Scan(%q) = %v, %d", what, k, l, e)
		}
		toldByChanges(t, what, sheet.New(g), k, err)
		return
	}
	m := plainOf(right)
	gets(t, what, g, m, k)
	scans(t, what, g, m, k, k+"\x00")
	s := sheet.New(g)
	if e := Put(s, shortest(k)); e != api.OK {
		t.Errorf("P14.2: %s: Put(%q) = %d", what, k, e)
	}
	if had, e := Del(s, k); !had || e != api.OK {
		t.Errorf("P14.2: %s: Del(%q) = %v, %d", what, k, had, e)
	}
}

// A Scan needs the pages in which its span has keys, or could have some.
func TestErrorsOfPagesBesideASpan(t *testing.T) {
	right := ready(2, three())
	m := plainOf(right)
	for _, x := range []struct {
		from, to string
		needs    []int
	}{
		{"", "", []int{2, 3, 4, 5, 6, 7, 8}},
		{"", "f", []int{2, 3, 5}},
		{"", "f\x00", []int{2, 3, 5, 6}},
		{"", "m", []int{2, 3, 5, 6}},
		{"f", "m", []int{2, 3, 6}},
		{"f", "", []int{2, 3, 4, 6, 7, 8}},
		{"e\xff", "f", []int{2, 3, 5}},
		{"m", "t", []int{2, 4, 7}},
		{"m", "t\x00", []int{2, 4, 7, 8}},
		{"l\xff", "m\x00", []int{2, 3, 4, 6, 7}},
		{"t", "", []int{2, 4, 8}},
		{"zz", "", []int{2, 4, 8}},
		{"zz", "a", []int{2, 4, 8}},
	} {
		for no := 2; no <= 8; no++ {
			g := copied(right)
			g.errs[no] = api.ErrDown
			if !slices.Contains(x.needs, no) {
				scans(t, fmt.Sprintf("the page %d tells an error", no), g, m, x.from, x.to)
			} else if l, err := Scan(g, x.from, x.to); len(l) > 0 || err != api.ErrDown {
				t.Errorf("P14.2: the page %d tells an error: Scan(%q, %q) = %v, %d", no, x.from, x.to, l, err)
			}
		}
	}
}

// failing tells an error from some asking on.
type failing struct {
	p    sheet.Pages
	left int
	err  api.Errno
}

func (f *failing) Page(no int) ([]byte, api.Errno) {
	if f.left == 0 {
		return nil, f.err
	}
	f.left--
	return f.p.Page(no)
}

// Wherever in a call the pages begin to fail, it tells that, or is done.
func TestPagesThatBeginToFail(t *testing.T) {
	full := crowded(t)
	m := plainOf(full)
	k := m.cells()[len(m)/2].Key
	for _, err := range []api.Errno{api.ErrDown, api.ErrBusy, 77} {
		for what, call := range map[string]func(p sheet.Pages) api.Errno{
			"Get":   func(p sheet.Pages) api.Errno { _, _, e := Get(p, k); return e },
			"Scan":  func(p sheet.Pages) api.Errno { _, e := Scan(p, "", ""); return e },
			"Check": Check,
			"Pages": func(p sheet.Pages) api.Errno { _, e := Pages(p); return e },
			"Put":   func(p sheet.Pages) api.Errno { return Put(sheet.New(p), shortest(k)) },
			"Del":   func(p sheet.Pages) api.Errno { _, e := Del(sheet.New(p), k); return e },
		} {
			for left := 0; ; left++ {
				f := &failing{p: full, left: left, err: err}
				e := call(f)
				if e == api.OK {
					break
				}
				if e != err {
					t.Errorf("P14.2: %s, %d askings: %d, want %d", what, left, e, err)
				}
				if left > 1000 {
					t.Fatalf("P14.2: %s asks too often", what)
				}
			}
		}
	}
}

// Where a Put has to lay all anew, it needs all pages.
func TestErrorsOfAPutThatNeedsAllPages(t *testing.T) {
	full := copied(crowded(t))
	for _, no := range studied(full).pages {
		for _, err := range []api.Errno{api.ErrDown, api.ErrNone} {
			g := copied(full)
			g.errs[no] = err
			s := sheet.New(g)
			if e := Put(s, longest(name16(1))); e != err && e != api.ErrFull {
				t.Errorf("P14.2: the page %d tells %d: Put = %d", no, err, e)
			}
			if l := s.Changes(); len(l) > 0 {
				t.Errorf("P14.1: behind an error there are %d changes", len(l))
			}
		}
	}
}

// What is told is nobody else's.
func TestAnswersAreOnesOwn(t *testing.T) {
	r := seeded(8)
	s, m := sheet.New(noughts()), plain{}
	for i := range 60 {
		puts(t, "own", s, m, r.cell(name16(i*3)))
	}
	was := copied(s)
	l, _ := Scan(s, "", "")
	for i := range l {
		l[i] = longest("other")
	}
	_ = append(l[:0:cap(l)], longest("another"))
	nos, _ := Pages(s)
	for i := range nos {
		nos[i] = 99
	}
	_ = append(nos, 98)
	stays(t, "P0.3: what was told was written", s, was)
	whole(t, "P0.3: what was told was written", s, m)
}

// answers are what all calls that only read tell.
func answers(p sheet.Pages) string {
	l, err := Scan(p, "", "")
	s := fmt.Sprintln(l, err)
	nos, err := Pages(p)
	s += fmt.Sprintln(nos, err, Check(p))
	for i := range 200 {
		c, is, err := Get(p, name16(i))
		l, e := Scan(p, name16(i), name16(2*i))
		s += fmt.Sprintln(c, is, err, l, e)
	}
	return s
}

func TestWhatOnlyReads(t *testing.T) {
	r := seeded(6)
	s, m := sheet.New(noughts()), plain{}
	for i := range 50 {
		puts(t, "reads", s, m, r.cell(name16(i*3)))
	}
	bad := but(6, leafOf())
	for _, p := range []sheet.Pages{s, copied(s), sheet.New(s), noughts(), ready(2, three()), bad, sheet.New(bad)} {
		was := copied(p)
		first := answers(p)
		stays(t, "P0.5: what was asked", p, was)
		if answers(p) != first {
			t.Error("P0.5: asked again it is something else")
		}
		if answers(copied(p)) != first {
			t.Error("P0.5: of the same pages it is something else")
		}
	}
	if l := sheet.New(s).Changes(); len(l) > 0 {
		t.Errorf("P0.5: what only reads made %d changes", len(l))
	}
}

// What was done before to others is of no weight.
func TestTheSameStepsHaveTheSamePages(t *testing.T) {
	run := func() *ground {
		r := seeded(12)
		s, m := sheet.New(noughts()), plain{}
		for range 400 {
			k := name16(r.below(120))
			if r.below(3) > 0 {
				puts(t, "steps", s, m, r.cell(k))
			} else {
				dels(t, "steps", s, m, k)
			}
		}
		return copied(s)
	}
	first := run()
	stays(t, "P0.5: the same steps", run(), first)
}

// Sheets above sheets: what was done on the upper one is told there alone.
func TestASheetAboveASheet(t *testing.T) {
	r := seeded(7)
	low, under := sheet.New(noughts()), plain{}
	for range 70 {
		puts(t, "low", low, under, r.cell(name16(r.below(100))))
	}
	was := copied(low)
	high, over := sheet.New(low), plainOf(low)
	whole(t, "high, as beneath", high, over)
	for n := range 120 {
		k := name16(r.below(100))
		if n%3 > 0 {
			puts(t, "high", high, over, r.cell(k))
		} else {
			dels(t, "high", high, over, k)
		}
	}
	whole(t, "high", high, over)
	stays(t, "P14.1: beneath", low, was)
	whole(t, "low", low, under)
	for _, c := range over.cells() {
		dels(t, "high", high, over, c.Key)
	}
	empty(t, "high", high)
	whole(t, "low", low, under)
	// The upper one's changes make the lower one as it is.
	for _, x := range high.Changes() {
		low.Set(x.No, x.B)
	}
	empty(t, "low, as above", low)
}

// A Put and a Del that have room change no page of the tree but those down to
// the leaf.
func TestWhatIsChanged(t *testing.T) {
	r := seeded(21)
	s, m := sheet.New(noughts()), plain{}
	for n := range 400 {
		k := name16(r.below(80))
		g := copied(s)
		if count(t, g) > 20 {
			dels(t, "changes", s, m, m.cells()[n%len(m)].Key)
			continue
		}
		way := wayTo(g, k)
		high := sheet.New(g)
		if n%3 > 0 {
			puts(t, "changes", high, plainOf(g), r.cell(k))
		} else {
			dels(t, "changes", high, plainOf(g), k)
		}
		for _, x := range high.Changes() {
			if inUse(g, x.No) && !slices.Contains(way, x.No) {
				t.Errorf("a change of %q changed the page %d, but the way is %d", k, x.No, way)
			}
			s.Set(x.No, x.B)
		}
		m = plainOf(s)
	}
}
