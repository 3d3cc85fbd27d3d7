package tree

import (
	"fmt"
	"slices"
	"strings"
	"testing"

	"engross/alloc"
	"engross/api"
	"engross/cell"
	"engross/node"
	"engross/sheet"
)

// name16 is a key of 16 bytes; those of rising numbers rise, and begin alike.
func name16(i int) string { return fmt.Sprintf("%016d", i) }

// filled is a tree that takes no cell like these any more.
func filled(t *testing.T, cells func(k string) cell.Cell) *ground {
	t.Helper()
	s, m := sheet.New(noughts()), plain{}
	for i := 0; puts(t, "filling", s, m, cells(name16(i*7919%100003))); i++ {
		if i > 5000 {
			t.Fatal("P14.1: a tree that is never full")
		}
	}
	whole(t, "filled", s, m)
	return copied(s)
}

// crowded is a tree all whose thirty pages are in use.
func crowded(t *testing.T) *ground {
	t.Helper()
	g := filled(t, longest)
	if n := count(t, g); n != 30 {
		t.Fatalf("a full tree has %d pages", n)
	}
	return g
}

// A full tree has room for what needs no page, and for that alone.
func TestAFullTree(t *testing.T) {
	g := crowded(t)
	s, m := sheet.New(g), plainOf(g)
	for i := range 40 {
		if k := name16(i*7919 + 1); puts(t, "full", s, m, longest(k)) {
			t.Errorf("P14.1: Put(%q) into a full tree", k)
		}
	}
	whole(t, "full", s, m)
	if l := s.Changes(); len(l) != 0 {
		t.Errorf("P14.1: behind ErrFull there are %d changes", len(l))
	}
	stays(t, "P14.1: ErrFull", s, g)
}

func TestInAFullTreeACellIsReplaced(t *testing.T) {
	g := crowded(t)
	s, m := sheet.New(g), plainOf(g)
	r := seeded(5)
	for _, c := range m.cells() {
		// As long, and another one.
		c.Val, c.New, c.Txn = text(r.word(20)), text(r.word(20)), 1<<40-1
		if !puts(t, "as long", s, m, c) || count(t, s) != 30 {
			t.Fatalf("P14.1: Put(%v): %d pages", c, count(t, s))
		}
	}
	whole(t, "as long", s, m)
	for _, c := range m.cells() {
		for length(c) > length(shortest(c.Key)) {
			c = shorterBy(c, 1+r.below(9))
			if !puts(t, "shorter", s, m, c) || count(t, s) != 30 {
				t.Fatalf("P14.1: Put(%v): %d pages", c, count(t, s))
			}
		}
	}
	whole(t, "shorter", s, m)
	// And longer again: they fit where they stood.
	for _, c := range m.cells() {
		if !puts(t, "longer", s, m, longest(c.Key)) || count(t, s) != 30 {
			t.Fatalf("P14.1: Put(%v): %d pages", c, count(t, s))
		}
	}
	whole(t, "longer", s, m)
}

// shorterBy is c with n bytes less, or the shortest one of its key.
func shorterBy(c cell.Cell, n int) cell.Cell {
	want := length(c) - n
	for length(c) > want {
		switch {
		case len(c.New.S) > 0:
			c.New.S = c.New.S[1:]
		case len(c.Val.S) > 0:
			c.Val.S = c.Val.S[1:]
		case c.Txn > 0:
			c.Txn, c.New = 0, api.Val{}
		default:
			return c
		}
	}
	return c
}

// A longer cell that does not fit where the elder one stood is refused, and
// the elder one stays.
func TestInAFullTreeALongerCellIsRefused(t *testing.T) {
	g := filled(t, func(k string) cell.Cell { return cellOf(k, "0123456789") })
	s, m := sheet.New(g), plainOf(g)
	if count(t, g) != 30 {
		t.Fatalf("a full tree has %d pages", count(t, g))
	}
	refused := 0
	for _, c := range m.cells() {
		if !puts(t, "longer", s, m, longest(c.Key)) {
			refused++
		}
		gets(t, "longer", s, m, c.Key)
	}
	whole(t, "longer", s, m)
	if refused < len(m)/2 {
		t.Errorf("P14.1: of %d cells in a full tree %d were refused", len(m), refused)
	}
}

// A Put needs two pages, and others have all, or all but one: a page that is
// in use is never taken.
func TestNoPageIsFree(t *testing.T) {
	for held := 29; held <= 30; held++ {
		s, m := sheet.New(noughts()), plain{}
		if held < 30 {
			for _, k := range []string{"a", "b", "c"} {
				puts(t, "one page", s, m, longest(k+strings.Repeat("x", 15)))
			}
		}
		for {
			if n, _ := alloc.Count(s); n == held {
				break
			}
			no, _ := alloc.Take(s)
			s.Set(no, slices.Repeat([]byte{byte(no)}, 256))
		}
		was := copied(s)
		if err := Put(s, longest("d"+strings.Repeat("x", 15))); err != api.ErrFull {
			t.Errorf("P14.1: Put with %d pages in use = %d, want ErrFull", held, err)
		}
		stays(t, "P14.1: ErrFull", s, was)
		for k := range m {
			if err := Put(s, shortest(k)); err != api.OK {
				t.Errorf("P14.1: Put of a shorter cell with %d pages in use = %d", held, err)
			}
			if had, err := Del(s, k); !had || err != api.OK {
				t.Errorf("P14.1: Del with %d pages in use = %v, %d", held, had, err)
			}
		}
		for no := 3; no <= held; no++ {
			if b, _ := s.Page(no); b[0] != byte(no) {
				t.Errorf("P14.1: the page %d, which was another's, was written", no)
			}
		}
	}
}

func TestDelOfAFullTree(t *testing.T) {
	g := crowded(t)
	for name, l := range orders(len(plainOf(g))) {
		s, m := sheet.New(g), plainOf(g)
		cells := m.cells()
		for n, i := range l {
			dels(t, name, s, m, cells[i].Key)
			dels(t, name, s, m, cells[i].Key)
			if n%7 == 0 {
				whole(t, name, s, m)
			}
		}
		empty(t, name, s)
	}
	// Of a key that is not there nothing is changed.
	s, m := sheet.New(g), plainOf(g)
	for _, c := range m.cells() {
		for _, k := range []string{c.Key[:15], c.Key[:15] + "\xff", "", "\xff", "\x00"} {
			dels(t, "no key", s, m, k)
		}
	}
	stays(t, "P14.1: Del of none", s, g)
}

// A page more is needed only where the cells do not go into those that there
// are: here four go into each leaf, to the last byte.
func TestACellMore(t *testing.T) {
	for name, l := range map[string][]int{"rising": orders(108)["rising"], "falling": orders(108)["falling"]} {
		s, m := sheet.New(noughts()), plain{}
		for _, i := range l {
			c := longest(strings.Repeat("k", 13) + fmt.Sprintf("%03d", i))
			c = shorterBy(c, 3+i%2)
			if !puts(t, name, s, m, c) {
				t.Fatalf("P14.1: %s: ErrFull of %d cells of %d bytes", name, len(m), length(c))
			}
		}
		whole(t, name, s, m)
		if n := count(t, s); n != 30 {
			t.Errorf("P14.1: %s: %d cells have %d pages", name, len(m), n)
		}
		for _, k := range []string{"a", "k", strings.Repeat("k", 14), strings.Repeat("k", 16), "z"} {
			if puts(t, name, s, m, shortest(k)) {
				t.Errorf("P14.1: %s: Put of a cell more", name)
			}
		}
		whole(t, name, s, m)
	}
}

// Of keys that soon differ one fork has the ways to all leaves.
func TestKeysBetweenPagesAreShort(t *testing.T) {
	for name, l := range map[string][]int{"rising": orders(87)["rising"], "falling": orders(87)["falling"]} {
		s, m := sheet.New(noughts()), plain{}
		for _, i := range l {
			c := longest(string([]byte{byte(i)}) + strings.Repeat("k", 15))
			if !puts(t, name, s, m, c) {
				t.Fatalf("P14.1: %s: ErrFull of %d cells", name, len(m))
			}
			if v := studied(s); v.depth > 2 {
				t.Fatalf("P14.1: %s: of %d cells the leaves are %d deep", name, len(m), v.depth)
			}
		}
		whole(t, name, s, m)
		if n := count(t, s); n != 30 {
			t.Errorf("P14.1: %s: %d cells have %d pages", name, len(m), n)
		}
	}
}

// Pages that Del leaves with little do not stand in a Put's way: of few cells
// it is never full.
func TestFewCellsInManyPages(t *testing.T) {
	for name, l := range orders(19) {
		for every := 2; every <= 4; every++ {
			s := sheet.New(crowded(t))
			m := plainOf(s)
			cells := m.cells()
			for i, c := range cells {
				if i%every != 0 {
					dels(t, name, s, m, c.Key)
				}
			}
			whole(t, name, s, m)
			for _, c := range m.cells() {
				if len(m) > 19 {
					dels(t, name, s, m, c.Key)
				}
			}
			for _, i := range l {
				puts(t, name, s, m, longest(fmt.Sprintf("%015dx", i*7919)))
				whole(t, name, s, m)
			}
		}
	}
}

// Trees that no Put made, but that are right.

// planted is a tree of these levels, each node of which has a few parts; its
// pages are of any numbers.
func planted(r *source, levels, most int, cells func(k string) cell.Cell) *ground {
	g := noughts()
	free := []int{}
	for no := 2; no <= 31; no++ {
		free = slices.Insert(free, r.below(len(free)+1), no)
	}
	names := []string{}
	for i := range 400 {
		names = append(names, fmt.Sprintf("%05d", i*10+r.below(9)))
	}
	p := planter{r: r, g: g, free: free, names: names, most: most, cells: cells}
	root := p.plant(levels)
	g.pages[1][4] = byte(root)
	return g
}

type planter struct {
	r     *source
	g     *ground
	free  []int
	names []string
	most  int
	cells func(k string) cell.Cell
	last  string // the greatest key that was planted
}

func (p *planter) page() int {
	no := p.free[0]
	p.free = p.free[1:]
	return no
}

// plant lays a node and all below it, and answers its page.
func (p *planter) plant(levels int) int {
	no := p.page()
	count := 1 + p.r.below(p.most)
	if levels == 1 {
		n := node.Node{Leaf: true}
		for range count {
			c := p.cells(p.names[0])
			if len(n.Cells) > 0 && node.Size(node.Node{Leaf: true, Cells: append(n.Cells, c)}) > 256 {
				break
			}
			p.last, p.names = p.names[0], p.names[1:]
			n.Cells = append(n.Cells, c)
		}
		p.g.lay(no, n)
		return no
	}
	n := node.Node{Kids: []int{p.plant(levels - 1)}}
	for range count - 1 {
		// The kid, the pages down to its leaf, and those that must still come.
		if len(p.free) < levels*p.most {
			break
		}
		// Any text above the last key, and not above the next.
		low := p.last + string(p.r.bytes(1+p.r.below(3)))
		if p.r.below(3) == 0 {
			low = p.names[0]
		}
		n.Keys = append(n.Keys, low)
		n.Kids = append(n.Kids, p.plant(levels-1))
	}
	p.g.lay(no, n)
	return no
}

func TestPlantedTrees(t *testing.T) {
	for seed := range 60 {
		r := seeded(seed)
		levels, most := 1+r.below(5), 1+r.below(4)
		what := fmt.Sprintf("planted %d: %d levels", seed, levels)
		cells := []func(k string) cell.Cell{longest, shortest, r.cell}[r.below(3)]
		g := planted(r, levels, most, cells)
		was := copied(g)
		s, m := sheet.New(g), plainOf(g)
		whole(t, what, s, m)
		for n := range 60 {
			k := fmt.Sprintf("%05d", r.below(4000)/(1+n%3))
			if r.below(3) > 0 {
				puts(t, what, s, m, cells(k))
			} else {
				for x := range m {
					if r.below(len(m)) == 0 {
						k = max(k, x)
					}
				}
				dels(t, what, s, m, k)
			}
			right(t, what, s, m)
			gets(t, what, s, m, k)
		}
		whole(t, what, s, m)
		empties(t, what, s, m, r)
		stays(t, "P0.3: "+what, g, was)
	}
}

// chain is a tree of one leaf below as many forks, each of one kid.
func chain(forks int, cells []cell.Cell) *ground {
	g := noughts()
	g.pages[1][4] = 31
	for no := 31; no > 31-forks; no-- {
		g.lay(no, node.Node{Kids: []int{no - 1}})
	}
	g.lay(31-forks, node.Node{Leaf: true, Cells: cells})
	return g
}

// All pages are in use, and there are few cells.
func TestATreeOfForks(t *testing.T) {
	for _, forks := range []int{0, 1, 2, 3, 5, 8, 13, 20, 27, 28, 29} {
		what := fmt.Sprintf("a leaf below %d forks", forks)
		g := chain(forks, []cell.Cell{longest(name16(1)), longest(name16(3)), longest(name16(5))})
		for i := range 8 {
			s, m := sheet.New(g), plainOf(g)
			whole(t, what, s, m)
			for j := range 17 {
				puts(t, what, s, m, longest(name16(i+j*3%20)))
				right(t, what, s, m)
			}
			whole(t, what, s, m)
		}
		s, m := sheet.New(g), plainOf(g)
		for k := range plainOf(g) {
			dels(t, what, s, m, k)
			whole(t, what, s, m)
		}
		empty(t, what, s)
	}
}

// A page that became empty is given back at once, and the forks that have
// nothing below them any more.
func TestPagesAreGivenBack(t *testing.T) {
	nodes := map[int]node.Node{
		2: {Kids: []int{3, 4, 5}, Keys: []string{"g", "p"}},
		3: {Kids: []int{6}},
		4: {Kids: []int{7, 8}, Keys: []string{"k"}},
		5: {Kids: []int{9}},
		6: {Leaf: true, Cells: []cell.Cell{cellOf("a", "v"), cellOf("c", "v")}},
		7: {Leaf: true, Cells: []cell.Cell{cellOf("h", "v")}},
		8: {Leaf: true, Cells: []cell.Cell{cellOf("m", "v")}},
		9: {Leaf: true, Cells: []cell.Cell{cellOf("q", "v"), cellOf("s", "v")}},
	}
	gone := map[string][]int{"a c": {3, 6}, "c a": {3, 6}, "h": {7}, "m": {8}, "h m": {4, 7, 8}, "m h": {4, 7, 8}, "q s": {5, 9}, "a": nil, "s": nil}
	for names, back := range gone {
		s := sheet.New(ready(2, nodes))
		m := plainOf(s)
		for _, k := range strings.Fields(names) {
			dels(t, names, s, m, k)
			whole(t, names, s, m)
		}
		for no := 2; no <= 9; no++ {
			want := !slices.Contains(back, no)
			if got, _ := alloc.Used(s, no); got != want {
				t.Errorf("P14.1: Del of %s: the page %d is in use: %v, want %v", names, no, got, want)
			}
		}
	}
	// A first page that is the way to one other page alone is of no use.
	s := sheet.New(ready(2, three()))
	m := plainOf(s)
	for i, k := range []string{"a", "f", "h", "c"} {
		dels(t, "the left half", s, m, k)
		whole(t, "the left half", s, m)
		if want := []int{7, 7, 6, 3}[i]; count(t, s) != want {
			t.Errorf("P14.1: Del of %q: %d pages, want %d", k, count(t, s), want)
		}
	}
	for name, l := range orders(6) {
		s := sheet.New(ready(2, nodes))
		m := plainOf(s)
		cells := m.cells()
		for _, i := range l {
			dels(t, name, s, m, cells[i].Key)
			whole(t, name, s, m)
		}
		empty(t, name, s)
	}
}

// A first page that is a leaf may be empty.
func TestAnEmptyFirstPage(t *testing.T) {
	g := ready(17, map[int]node.Node{17: {Leaf: true}})
	s, m := sheet.New(g), plain{}
	whole(t, "an empty first page", s, m)
	scans(t, "an empty first page", s, m, "a", "b")
	dels(t, "an empty first page", s, m, "k")
	stays(t, "P14.1: an empty first page", s, g)
	puts(t, "an empty first page", s, m, cellOf("k", "v"))
	whole(t, "an empty first page", s, m)
	dels(t, "an empty first page", s, m, "k")
	empty(t, "an empty first page", s)
}
