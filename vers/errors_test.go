package vers

import (
	"fmt"
	"math"
	"slices"
	"strings"
	"testing"
	"unsafe"

	"engross/alloc"
	"engross/api"
	"engross/cell"
	"engross/node"
	"engross/sheet"
	"engross/tree"
)

// call is one of the package's calls: what it answers beside its error, told
// whether that is nothing.
type call struct {
	name    string
	changes bool
	does    func(p sheet.Pages) (nothing bool, err api.Errno)
}

// above is p, if it is a sheet, else a sheet above it.
func above(p sheet.Pages) *sheet.Sheet {
	if s, is := p.(*sheet.Sheet); is {
		return s
	}
	return sheet.New(p)
}

// calls are all, of a transaction and a key.
func calls(txn int64, k string) []call {
	of := func(n int, err api.Errno) (bool, api.Errno) { return n == 0, err }
	return []call{
		{"See", false, func(p sheet.Pages) (bool, api.Errno) {
			v, err := See(p, txn, k)
			return v == none(), err
		}},
		{"Range", false, func(p sheet.Pages) (bool, api.Errno) {
			l, err := Range(p, txn, "", "")
			return len(l) == 0, err
		}},
		{"Range of one", false, func(p sheet.Pages) (bool, api.Errno) {
			l, err := Range(p, txn, k, k+"\x00")
			return len(l) == 0, err
		}},
		{"Write", true, func(p sheet.Pages) (bool, api.Errno) { return true, Write(above(p), txn, k, text("other")) }},
		{"Write of none", true, func(p sheet.Pages) (bool, api.Errno) { return true, Write(above(p), txn, k, none()) }},
		{"Commit", true, func(p sheet.Pages) (bool, api.Errno) { return of(Commit(above(p), txn)) }},
		{"Undo", true, func(p sheet.Pages) (bool, api.Errno) { return of(Undo(above(p), txn)) }},
		{"Clean", true, func(p sheet.Pages) (bool, api.Errno) { return of(Clean(above(p))) }},
	}
}

// told asks that all calls tell this error, nothing beside it, and change
// nothing.
func told(t *testing.T, what string, p sheet.Pages, want api.Errno) {
	t.Helper()
	for _, c := range calls(5, "k010") {
		s := above(p)
		was := stateOf(s)
		if nothing, err := c.does(p); !nothing || err != want {
			t.Errorf("%s: %s: %d, nothing beside it: %v, want %d", what, c.name, err, nothing, want)
		}
		stays(t, what+": "+c.name, s, was)
	}
}

func TestNoPages(t *testing.T) {
	var no *sheet.Sheet
	told(t, "no sheet", no, api.ErrDown)
	told(t, "a sheet above nothing", sheet.New(nil), api.ErrDown)
	told(t, "a sheet above no sheet", sheet.New(no), api.ErrDown)
	for txn := int64(-1); txn < 3; txn++ {
		if v, err := See(nil, txn, "k"); v != none() || err != api.ErrDown {
			t.Errorf("P15.1: See(nil) = %v, %d, want ErrDown", v, err)
		}
		if l, err := Range(nil, txn, "", ""); len(l) > 0 || err != api.ErrDown {
			t.Errorf("P15.1: Range(nil) = %v, %d, want ErrDown", l, err)
		}
	}
}

// big is a tree of many pages, of each sort of cell, those of the transaction
// 5 all over it.
func big(t *testing.T) (*ground, *plain) {
	t.Helper()
	r := seeded(3)
	s, m := sheet.New(noughts()), fresh()
	for i := range 120 {
		writes(t, "big", s, m, 3, fmt.Sprintf("k%03d", i), r.val())
	}
	ends()[0].does(t, "big", s, m, 3)
	for i := range 120 {
		if txn := []int64{0, 5, 6}[i%3]; txn > 0 {
			writes(t, "big", s, m, txn, fmt.Sprintf("k%03d", i), r.val())
		}
	}
	if n := used(t, s); n < 8 {
		t.Fatalf("the big tree has %d pages", n)
	}
	whole(t, "big", s, m)
	return copied(s), m
}

func someErrors() []api.Errno {
	return []api.Errno{api.ErrDown, api.ErrBusy, api.ErrFull, api.ErrForm, api.ErrNone, api.ErrRange, api.ErrCorrupt, -1, 77, math.MaxInt64}
}

func TestErrorsOfThePage1(t *testing.T) {
	for _, err := range someErrors() {
		g, _ := big(t)
		g.errs[1] = err
		told(t, fmt.Sprint("the page 1 tells ", err), g, err)
		told(t, fmt.Sprint("the page 1 tells ", err), sheet.New(g), err)
	}
}

// Each page's error is told by each call that needs the page; what needs it
// not goes on.
func TestErrorsOfAPage(t *testing.T) {
	right, m := big(t)
	nos, _ := tree.Pages(right)
	for i, no := range nos {
		g := copied(right)
		want := someErrors()[i%len(someErrors())]
		g.errs[no] = want
		needed := 0
		for _, k := range m.keys() {
			if _, _, err := tree.Get(g, k); err == api.OK {
				sees(t, "a page tells an error", g, m, 5, k)
				ranges(t, "a page tells an error", g, m, 6, k, k+"\x00")
				continue
			}
			needed++
			for _, c := range calls(5, k) {
				s := sheet.New(g)
				was := stateOf(s)
				if nothing, err := c.does(s); !nothing || err != want {
					t.Errorf("the page %d tells %d: %s of %q: %d", no, want, c.name, k, err)
				}
				stays(t, "behind an error", s, was)
			}
		}
		if needed == 0 {
			t.Errorf("the page %d is needed for no key", no)
		}
	}
}

// failing tells an error at some asking, and, but for once, from there on.
type failing struct {
	p    sheet.Pages
	left int
	once bool
	err  api.Errno
}

func (f *failing) Page(no int) ([]byte, api.Errno) {
	f.left--
	if f.left < 0 && (!f.once || f.left == -1) {
		return nil, f.err
	}
	return f.p.Page(no)
}

// Wherever in a call the pages fail, it tells that and has changed nothing, or
// is done.
func TestPagesThatFail(t *testing.T) {
	g, m := big(t)
	// Not ErrFull: of that one tree.Put lays all pages anew.
	errs := []api.Errno{api.ErrDown, api.ErrBusy, api.ErrForm, api.ErrNone, 77}
	for i, k := range []string{"k001", "k061", "k118", "own", "new"} {
		if m.busy(5, k) {
			t.Fatalf("%q is another's", k)
		}
		for _, c := range calls(5, k) {
			right := sheet.New(g)
			if k == "own" {
				writes(t, "own", right, m.copied(), 5, k, text("x"))
				right = sheet.New(copied(right))
			}
			low := copied(right)
			if _, err := c.does(right); err != api.OK {
				t.Fatalf("%s of %q: %d", c.name, k, err)
			}
			for _, once := range []bool{false, true} {
				failsSomewhere(t, fmt.Sprintf("%s of %q, once: %v", c.name, k, once), c, low, stateOf(right), failing{once: once, err: errs[i]})
			}
		}
	}
}

// failsSomewhere asks it of each of the first askings, and of some others.
func failsSomewhere(t *testing.T, what string, c call, low *ground, done state, fails failing) {
	t.Helper()
	for left := 0; ; left += 1 + left/50 {
		f := fails
		f.p, f.left = low, left
		s := sheet.New(&f)
		nothing, err := c.does(s)
		if f.left >= 0 {
			return
		}
		f.left = math.MaxInt
		switch now := stateOf(s); {
		case err == api.OK && now != done:
			t.Fatalf("%s, %d askings: it is told as done, but is not", what, left)
		case err == api.OK:
		case err != f.err || !nothing:
			t.Fatalf("%s, %d askings: %d, nothing beside it: %v", what, left, err, nothing)
		case now != stateOf(sheet.New(low)):
			t.Fatalf("%s, %d askings: behind an error the sheet is changed", what, left)
		}
	}
}

// bears asks that every call ends and does not panic, whatever the pages are,
// tells no errors but those it may, and changes nothing behind one.
func bears(t *testing.T, what string, p sheet.Pages) {
	t.Helper()
	for _, k := range []string{"a", "k010", "k061", "\xff"} {
		for _, c := range calls(5, k) {
			s := sheet.New(p)
			was := stateOf(s)
			nothing, err := c.does(s)
			write := strings.HasPrefix(c.name, "Write")
			if err != api.OK && err != api.ErrCorrupt && !(write && (err == api.ErrBusy || err == api.ErrFull)) {
				t.Errorf("%s: %s(%q): %d", what, c.name, k, err)
			}
			if err != api.OK && !nothing {
				t.Errorf("%s: %s(%q): %d, and something beside it", what, c.name, k, err)
			}
			if err != api.OK || !c.changes {
				stays(t, what+": "+c.name, s, was)
			}
			ended(t, what, c.name, s)
		}
	}
}

// ended asks that behind an end that was OK nothing is left of what it ended.
func ended(t *testing.T, what, name string, s *sheet.Sheet) {
	t.Helper()
	for _, e := range ends() {
		if e.name != name {
			continue
		}
		if _, err := e.call(s, 5); err != api.OK {
			continue
		}
		if n, err := e.call(s, 5); n != 0 || err != api.OK {
			t.Errorf("%s: %s, once more: %d, %d", what, name, n, err)
		}
	}
}

func TestPagesThatAreNotRight(t *testing.T) {
	right, _ := big(t)
	nos, _ := tree.Pages(right)
	r := seeded(11)
	for n := range 200 {
		g := copied(right)
		no := append(nos, 1)[r.below(len(nos)+1)]
		switch n % 4 {
		case 0:
			for range 1 + r.below(3) {
				g.pages[no][r.below(256)] ^= 1 << r.below(8)
			}
		case 1:
			g.pages[no] = slices.Clone(g.pages[nos[r.below(len(nos))]])
		case 2:
			g.pages[no] = []byte(r.word(256))
		case 3:
			g.pages[no] = make([]byte, []int{0, 1, 255, 256, 257}[r.below(5)])
		}
		bears(t, fmt.Sprint("not right ", n), g)
	}
	torn := copied(right)
	torn.pages[1][4] = 200
	told(t, "no page's number", torn, api.ErrCorrupt)
	torn = copied(right)
	clear(torn.pages[torn.pages[1][4]])
	told(t, "the first page is noughts", torn, api.ErrCorrupt)
}

// A cell that stands where its key does not lead to can't be ended: nothing is
// laid a second time.
func TestACellInAWrongPlace(t *testing.T) {
	mine := func(k string) cell.Cell { return cell.Cell{Key: k, Val: text("v"), Txn: 5, New: text("w")} }
	yours := func(k string) cell.Cell { return cell.Cell{Key: k, Val: text("v"), Txn: 6, New: text("w")} }
	plainOne := func(k string) cell.Cell { return cell.Cell{Key: k, Val: text("v")} }
	leaf := func(cells ...cell.Cell) node.Node { return node.Node{Leaf: true, Cells: cells} }
	for what, x := range map[string]struct {
		left, right node.Node
		want        [3]api.Errno // of Commit, Undo, Clean
	}{
		"right":             {leaf(mine("a")), leaf(mine("x")), [3]api.Errno{}},
		"beyond its page":   {leaf(mine("a"), mine("z")), leaf(mine("x")), [3]api.Errno{api.ErrCorrupt, api.ErrCorrupt, api.ErrCorrupt}},
		"ahead of its page": {leaf(mine("b")), leaf(mine("a"), mine("x")), [3]api.Errno{api.ErrCorrupt, api.ErrCorrupt, api.ErrCorrupt}},
		"twice":             {leaf(mine("a")), leaf(mine("a"), mine("x")), [3]api.Errno{api.ErrCorrupt, api.ErrCorrupt, api.ErrCorrupt}},
		"twice, another":    {leaf(yours("a")), leaf(mine("a"), mine("x")), [3]api.Errno{api.ErrCorrupt, api.ErrCorrupt, api.ErrCorrupt}},
		"another's":         {leaf(mine("a"), yours("z")), leaf(mine("x")), [3]api.Errno{api.OK, api.OK, api.ErrCorrupt}},
		"nobody's":          {leaf(mine("a"), plainOne("z")), leaf(mine("x")), [3]api.Errno{}},
	} {
		g := noughts()
		g.pages[1][4] = 2
		g.lay(2, node.Node{Kids: []int{3, 4}, Keys: []string{"m"}})
		g.lay(3, x.left)
		g.lay(4, x.right)
		for i, e := range ends() {
			for all := range 2 {
				s := sheet.New(g)
				for err := api.OK; all == 1 && err == api.OK; {
					_, err = alloc.Take(s)
				}
				was := stateOf(s)
				n, err := e.call(s, 5)
				if err != x.want[i] || (n == 0) != (err != api.OK) {
					t.Errorf("%s: %s = %d, %d, want %d", what, e.name, n, err, x.want[i])
				}
				if err != api.OK {
					stays(t, what+": "+e.name, s, was)
				}
			}
		}
	}
}

// What only reads leaves all as it was, and answers the same again.
func TestWhatOnlyReads(t *testing.T) {
	g, m := big(t)
	torn := copied(g)
	torn.pages[1][4] = 77
	for _, p := range []sheet.Pages{g, sheet.New(g), sheet.New(sheet.New(g)), torn, noughts()} {
		was := stateOf(p)
		ask := func() string {
			all := ""
			for _, txn := range m.askers() {
				l, err := Range(p, txn, "", "")
				all += fmt.Sprintln(l, err)
				for _, k := range m.keys() {
					v, err := See(p, txn, k)
					all += fmt.Sprintln(v, err)
				}
			}
			return all
		}
		first := ask()
		stays(t, "P0.5: what was asked", p, was)
		if ask() != first {
			t.Error("P0.5: asked again it is something else")
		}
	}
}

func TestAnswersAreOnesOwn(t *testing.T) {
	g, m := big(t)
	s := sheet.New(g)
	was, ground := stateOf(s), stateOf(g)
	first, _ := Range(s, 5, "", "")
	again, _ := Range(s, 5, "", "")
	for i := range first {
		first[i] = api.Pair{Key: "other", Val: text("other")}
	}
	_ = append(first[:0:cap(first)], api.Pair{Key: "another"})
	if !slices.EqualFunc(again, m.in(5, "", ""), samePair) {
		t.Error("P0.3: who writes into an answer changes another")
	}
	stays(t, "P0.3: an answer was written", s, was)
	stays(t, "P0.3: an answer was written", g, ground)
	whole(t, "P0.3: an answer was written", s, m)
}

// over answers a text that lies on b's memory, so that a test sees who writes
// there or still reads it.
func over(b []byte) string { return unsafe.String(unsafe.SliceData(b), len(b)) }

func TestWhatIsHandedInIsNotKept(t *testing.T) {
	s, m := sheet.New(noughts()), fresh()
	for i := range 60 {
		k, v := []byte(name16(i)), []byte(fmt.Sprint("value ", i))
		if err := Write(s, 5, over(k), text(over(v))); err != api.OK {
			t.Fatalf("P15.1: Write = %d", err)
		}
		if string(k) != name16(i) || string(v) != fmt.Sprint("value ", i) {
			t.Fatal("P0.3: what was handed in was written")
		}
		m.write(5, name16(i), text(string(v)))
		seen, _ := See(s, 5, over(k))
		l, _ := Range(s, 5, over(k), "")
		clear(k)
		clear(v)
		if len(l) != 1 || !samePair(l[0], api.Pair{Key: name16(i), Val: seen}) || seen.S != fmt.Sprint("value ", i) {
			t.Fatalf("P0.3: an answer shares an argument's memory: %v", l)
		}
	}
	whole(t, "P0.3: what was handed in is something else now", s, m)
}

// What was done before to others is of no weight.
func TestTheSameStepsHaveTheSamePages(t *testing.T) {
	run := func() state {
		r := seeded(12)
		s, m := sheet.New(noughts()), fresh()
		for range 300 {
			txn := int64(1 + r.below(3))
			if r.below(8) > 0 {
				writes(t, "steps", s, m, txn, name16(r.below(90)), r.val())
			} else {
				ends()[r.below(3)].does(t, "steps", s, m, txn)
			}
		}
		return stateOf(s)
	}
	if run() != run() {
		t.Error("P0.5: the same steps have other pages")
	}
}

// What is done on an upper sheet is there alone, until it is laid beneath.
func TestASheetAboveASheet(t *testing.T) {
	g, under := big(t)
	ground := stateOf(g)
	for _, e := range ends() {
		low := sheet.New(g)
		was := stateOf(low)
		high, m := sheet.New(low), under.copied()
		r := seeded(7)
		for range 40 {
			writes(t, "high", high, m, 5, fmt.Sprintf("k%03d", r.below(140)), r.val())
		}
		e.does(t, "high", high, m, 5)
		whole(t, "high", high, m)
		stays(t, "P0.3: beneath", low, was)
		whole(t, "low", low, under)
		for _, x := range high.Changes() {
			low.Set(x.No, x.B)
		}
		whole(t, "low, as above", low, m)
		stays(t, "P0.3: the ground", g, ground)
	}
}
