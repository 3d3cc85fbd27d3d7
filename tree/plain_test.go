package tree

import (
	"bytes"
	"fmt"
	"maps"
	"math"
	"slices"
	"strings"
	"testing"

	"engross/alloc"
	"engross/api"
	"engross/cell"
	"engross/float"
	"engross/node"
	"engross/sheet"
)

// What the tests lean on: pages to lie beneath, cells of all sorts, a plain
// model, and a check of a tree's pages that is done without the package.

// source is a small generator, so that every run tries the same inputs.
type source uint64

func (s *source) next() uint64 {
	*s ^= *s << 13
	*s ^= *s >> 7
	*s ^= *s << 17
	return uint64(*s)
}

func (s *source) below(n int) int { return int(s.next() >> 8 % uint64(n)) }

func (s *source) bytes(n int) []byte {
	b := make([]byte, n)
	for i := range b {
		b[i] = byte(s.next() >> 16)
	}
	return b
}

func (s *source) word(n int) string { return string(s.bytes(n)) }

// seeded is a source that has forgotten how small its seed was.
func seeded(n int) *source {
	s := source(uint64(n)*0x9e3779b97f4a7c15 + 1)
	for range 4 {
		s.next()
	}
	return &s
}

// ground is pages to lie beneath, noughts where none were laid. It hands out
// the very bytes that it keeps, beside an error too, and notes what it was
// asked.
type ground struct {
	pages [96][]byte
	errs  [96]api.Errno
	asked [96]int
}

func (g *ground) Page(no int) ([]byte, api.Errno) {
	if no < 0 || no > 95 {
		return nil, api.ErrRange
	}
	g.asked[no]++
	return g.pages[no], g.errs[no]
}

func noughts() *ground {
	g := &ground{}
	for no := range g.pages {
		g.pages[no] = make([]byte, 256)
	}
	return g
}

// ready is a ground with a tree of these nodes that begins at root, and with
// just the nodes' pages in use.
func ready(root int, nodes map[int]node.Node) *ground {
	g := noughts()
	g.pages[1][4] = byte(root)
	for no, n := range nodes {
		g.lay(no, n)
	}
	return g
}

// lay makes n the page no, in use.
func (g *ground) lay(no int, n node.Node) {
	b, err := node.Encode(n)
	if err != api.OK {
		panic(fmt.Sprint("no page: ", n))
	}
	g.pages[no] = b
	g.pages[1][no/8] |= 1 << (no % 8)
}

// copied is pages of its own, as p tells them now.
func copied(p sheet.Pages) *ground {
	g := &ground{}
	for no := range g.pages {
		b, err := p.Page(no)
		g.pages[no], g.errs[no] = slices.Clone(b), err
	}
	return g
}

// stays asks that p tells the pages of want.
func stays(t *testing.T, what string, p sheet.Pages, want *ground) {
	t.Helper()
	now := copied(p)
	for no := range 96 {
		if !bytes.Equal(now.pages[no], want.pages[no]) || now.errs[no] != want.errs[no] {
			t.Errorf("%s: the page %d is %x, %d, want %x, %d", what, no, now.pages[no], now.errs[no], want.pages[no], want.errs[no])
		}
	}
}

// unchanged asks that s has the same changes as ahead.
func unchanged(t *testing.T, what string, s *sheet.Sheet, ahead []api.Image) {
	t.Helper()
	now := s.Changes()
	if !slices.EqualFunc(now, ahead, func(a, b api.Image) bool { return a.No == b.No && bytes.Equal(a.B, b.B) }) {
		t.Errorf("%s: the sheet was changed", what)
	}
}

// Values and cells.

func text(s string) api.Val { return api.Val{Kind: api.VText, S: s} }

func number(f float64) api.Val { return api.Val{Kind: api.VFloat, F: f} }

func cellOf(k, v string) cell.Cell { return cell.Cell{Key: k, Val: text(v)} }

// longest is a cell of k that is as long as a cell can be, if k is.
func longest(k string) cell.Cell {
	return cell.Cell{Key: k, Val: text(strings.Repeat("v", 20)), Txn: 1 << 40, New: text(strings.Repeat("w", 20))}
}

// shortest is a cell of k that is as short as a cell can be.
func shortest(k string) cell.Cell { return cellOf(k, "") }

func length(c cell.Cell) int { return len(cell.Put(nil, c)) }

func same(a, b cell.Cell) bool {
	return a.Key == b.Key && a.Txn == b.Txn && sameVal(a.Val, b.Val) && sameVal(a.New, b.New)
}

func sameVal(a, b api.Val) bool {
	f := math.Float64bits(a.F) == math.Float64bits(b.F) || a.F != a.F && b.F != b.F
	return a.Kind == b.Kind && a.S == b.S && f
}

func (s *source) val() api.Val {
	switch s.below(5) {
	case 0:
		return api.Val{}
	case 1:
		l := []float64{0, math.Copysign(0, -1), 1, -1.5, math.Inf(1), math.Inf(-1), float.Clean(math.NaN()), math.MaxFloat64, math.SmallestNonzeroFloat64}
		return number(l[s.below(len(l))])
	}
	return text(s.word(s.below(21)))
}

// cell is any cell of k.
func (s *source) cell(k string) cell.Cell {
	c := cell.Cell{Key: k, Val: s.val(), New: s.val(), Txn: int64(1 + s.below(1<<s.below(41)))}
	if s.below(2) == 0 {
		c.Txn, c.New = 0, api.Val{}
		if c.Val.Kind == api.VNone {
			c.Val = text("")
		}
	}
	return c
}

// mayNot are cells of k that may not be, each in another way.
func mayNot(k string) []cell.Cell {
	one := cellOf(k, "one")
	change := func(f func(c *cell.Cell)) cell.Cell {
		c := one
		f(&c)
		return c
	}
	return []cell.Cell{
		{}, {Key: k}, {Val: text("one")},
		change(func(c *cell.Cell) { c.Key = strings.Repeat("k", 17) }),
		change(func(c *cell.Cell) { c.Key = k + strings.Repeat("k", 1<<16) }),
		change(func(c *cell.Cell) { c.Val = api.Val{} }),
		change(func(c *cell.Cell) { c.Val.Kind = 3 }),
		change(func(c *cell.Cell) { c.Val.Kind = -1 }),
		change(func(c *cell.Cell) { c.Val.S = strings.Repeat("x", 21) }),
		change(func(c *cell.Cell) { c.Val.F = 1 }),
		change(func(c *cell.Cell) { c.New = text("") }),
		change(func(c *cell.Cell) { c.Txn = -1 }),
		change(func(c *cell.Cell) { c.Txn = 1<<40 + 1 }),
		change(func(c *cell.Cell) { c.Txn, c.New = 5, api.Val{Kind: 9} }),
		change(func(c *cell.Cell) { c.Txn, c.New = 5, text(strings.Repeat("x", 21)) }),
		change(func(c *cell.Cell) { c.Txn, c.New = -5, text("two") }),
	}
}

// A checking of trees that knows the pages' form alone.

// seen is what a tree's pages have.
type seen struct {
	cells []cell.Cell
	pages []int
	depth int // of the leaves
	wrong string
}

func (v *seen) fault(s string) {
	if v.wrong == "" {
		v.wrong = s
	}
}

// studied is what the pages of p have. Its wrong says what of P14.2 does not
// hold, if something does not.
func studied(p sheet.Pages) *seen {
	v := &seen{}
	b, _ := p.Page(1)
	root := int(b[4])
	if root == 1 || root > 31 {
		v.fault("the fifth byte is no page's")
		return v
	}
	if root != 0 {
		v.study(p, root, 1, "", "", true)
	}
	slices.Sort(v.pages)
	if len(slices.Compact(slices.Clone(v.pages))) != len(v.pages) {
		v.fault("a page is reached twice")
	}
	var used []int
	for no := range 32 {
		if inUse(p, no) {
			used = append(used, no)
		}
	}
	if !slices.Equal(used, v.pages) {
		v.fault(fmt.Sprintf("in use are %d, the tree's are %d", used, v.pages))
	}
	return v
}

func (v *seen) study(p sheet.Pages, no, depth int, low, high string, noHigh bool) {
	if slices.Contains(v.pages, no) {
		v.fault("a page is reached twice")
		return
	}
	v.pages = append(v.pages, no)
	b, _ := p.Page(no)
	n, err := node.Decode(b)
	if err != api.OK {
		v.fault("a page is no node")
		return
	}
	names := slices.Clone(n.Keys)
	for _, c := range n.Cells {
		names = append(names, c.Key)
	}
	for _, k := range names {
		if k < low || !noHigh && k >= high {
			v.fault("a key is out of its bounds")
		}
	}
	if !n.Leaf {
		for i, kid := range n.Kids {
			from, to, end := low, high, noHigh
			if i > 0 {
				from = n.Keys[i-1]
			}
			if i < len(n.Keys) {
				to, end = n.Keys[i], false
			}
			v.study(p, kid, depth+1, from, to, end)
		}
		return
	}
	if len(n.Cells) == 0 && depth > 1 {
		v.fault("a leaf is empty")
	}
	if v.depth != 0 && v.depth != depth {
		v.fault("the leaves are not equally deep")
	}
	v.depth = depth
	v.cells = append(v.cells, n.Cells...)
}

// inUse says whether the page 1 has the page no in use.
func inUse(p sheet.Pages, no int) bool {
	b, _ := p.Page(1)
	return no >= 2 && no <= 31 && b[no/8]>>(no%8)&1 == 1
}

// wayTo are the pages of a right tree down to the leaf in which k must be.
func wayTo(p sheet.Pages, k string) []int {
	var l []int
	b, _ := p.Page(1)
	for no := int(b[4]); no != 0; {
		l = append(l, no)
		b, _ := p.Page(no)
		n, _ := node.Decode(b)
		if n.Leaf {
			break
		}
		i := 0
		for i < len(n.Keys) && n.Keys[i] <= k {
			i++
		}
		no = n.Kids[i]
	}
	return l
}

// fitsIn says whether the leaf of a right tree in which c must be has room for
// it, where it stands in place of an elder one.
func fitsIn(p sheet.Pages, c cell.Cell) bool {
	way := wayTo(p, c.Key)
	if len(way) == 0 {
		return false
	}
	b, _ := p.Page(way[len(way)-1])
	n, _ := node.Decode(b)
	size := 2 + length(c)
	for _, x := range n.Cells {
		if x.Key != c.Key {
			size += length(x)
		}
	}
	return size <= 256
}

// The plain model: cells by their keys.

type plain map[string]cell.Cell

// cells are those of m, by rising keys.
func (m plain) cells() []cell.Cell {
	var l []cell.Cell
	for _, k := range slices.Sorted(maps.Keys(m)) {
		l = append(l, m[k])
	}
	return l
}

// in are the cells of m from from on, below to.
func (m plain) in(from, to string) []cell.Cell {
	return slices.DeleteFunc(m.cells(), func(c cell.Cell) bool { return c.Key < from || to != "" && c.Key >= to })
}

// plainOf are the cells of a right tree.
func plainOf(p sheet.Pages) plain {
	m := plain{}
	for _, c := range studied(p).cells {
		m[c.Key] = c
	}
	return m
}

// right asks that p is a right tree with just the cells of m, and that Check,
// Pages and alloc say so.
func right(t *testing.T, what string, p sheet.Pages, m plain) {
	t.Helper()
	v := studied(p)
	if v.wrong != "" {
		t.Fatalf("%s: P14.2: %s", what, v.wrong)
	}
	if !slices.EqualFunc(v.cells, m.cells(), same) {
		t.Fatalf("%s: P14.1: the cells are %v, want %v", what, v.cells, m.cells())
	}
	if err := Check(p); err != api.OK {
		t.Fatalf("%s: P14.2: Check = %d", what, err)
	}
	nos, err := Pages(p)
	if !slices.Equal(nos, v.pages) || err != api.OK {
		t.Fatalf("%s: P14.1: Pages = %d, %d, want %d", what, nos, err, v.pages)
	}
	if n, err := alloc.Count(p); n != len(nos) || err != api.OK {
		t.Fatalf("%s: P14.1: Count = %d, %d, the pages are %d", what, n, err, nos)
	}
}

// gets asks that Get of k is m's.
func gets(t *testing.T, what string, p sheet.Pages, m plain, k string) {
	t.Helper()
	want, has := m[k]
	c, is, err := Get(p, k)
	if is != has || !same(c, want) || err != api.OK {
		t.Fatalf("%s: P14.1: Get(%q) = %v, %v, %d, want %v, %v", what, k, c, is, err, want, has)
	}
}

// scans asks that Scan is m's.
func scans(t *testing.T, what string, p sheet.Pages, m plain, from, to string) {
	t.Helper()
	l, err := Scan(p, from, to)
	if !slices.EqualFunc(l, m.in(from, to), same) || err != api.OK {
		t.Fatalf("%s: P14.1: Scan(%q, %q) = %v, %d, want %v", what, from, to, l, err, m.in(from, to))
	}
}

// whole asks all that there is to ask of a right tree with m's cells.
func whole(t *testing.T, what string, p sheet.Pages, m plain) {
	t.Helper()
	right(t, what, p, m)
	scans(t, what, p, m, "", "")
	for k := range m {
		gets(t, what, p, m, k)
		gets(t, what, p, m, k+"\x00")
		gets(t, what, p, m, k[:len(k)-1])
	}
}

func count(t *testing.T, p sheet.Pages) int {
	t.Helper()
	n, err := alloc.Count(p)
	if err != api.OK {
		t.Fatalf("Count: %d", err)
	}
	return n
}

// puts puts c, and asks that the answer and what stays is as it must be: it
// answers whether there was room.
func puts(t *testing.T, what string, s *sheet.Sheet, m plain, c cell.Cell) bool {
	t.Helper()
	used, ahead, room := count(t, s), s.Changes(), fitsIn(s, c)
	err := Put(s, c)
	if err == api.ErrFull {
		if used < 24 || len(m) < 20 || room {
			t.Fatalf("%s: P14.1: Put(%v): ErrFull with %d pages and %d cells, there is room: %v", what, c, used, len(m), room)
		}
		unchanged(t, what+": P14.1: ErrFull", s, ahead)
		return false
	}
	if err != api.OK {
		t.Fatalf("%s: P14.1: Put(%v) = %d", what, c, err)
	}
	if room && count(t, s) != used {
		t.Fatalf("%s: P14.1: Put(%v), for which there was room: %d pages, then %d", what, c, used, count(t, s))
	}
	m[c.Key] = c
	return true
}

// dels deletes k, and asks that the answer is as it must be.
func dels(t *testing.T, what string, s *sheet.Sheet, m plain, k string) {
	t.Helper()
	used, ahead := count(t, s), s.Changes()
	_, has := m[k]
	had, err := Del(s, k)
	if had != has || err != api.OK {
		t.Fatalf("%s: P14.1: Del(%q) = %v, %d, want %v", what, k, had, err, has)
	}
	if !has {
		unchanged(t, what+": P14.1: Del of none", s, ahead)
	}
	if now := count(t, s); now > used {
		t.Fatalf("%s: P14.1: Del(%q): %d pages, then %d", what, k, used, now)
	}
	delete(m, k)
}
