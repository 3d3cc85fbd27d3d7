package tree

import (
	"slices"

	"engross/alloc"
	"engross/api"
	"engross/cell"
	"engross/guard"
	"engross/key"
	"engross/node"
	"engross/sheet"
)

// part is a page, and the key at which its span begins.
type part struct {
	no  int
	low string
}

// put makes c the cell of its key.
func put(s *sheet.Sheet, c cell.Cell) {
	no := first(s)
	if no == 0 {
		begin(s, add(s, node.Node{Leaf: true, Cells: []cell.Cell{c}}))
		return
	}
	w := walk{s: s}
	if more, is := w.put(no, c); is {
		begin(s, add(s, node.Node{Kids: []int{no, more.no}, Keys: []string{more.low}}))
	}
}

// put lays c at or below the page no. If that got too long, the page that was
// cut off is answered, and true.
func (w *walk) put(no int, c cell.Cell) (part, bool) {
	n := w.node(no)
	if n.Leaf {
		n.Cells = with(n.Cells, c)
		return keep(w.s, no, n)
	}
	i := node.Kid(n, c.Key)
	more, is := w.put(n.Kids[i], c)
	if !is {
		return part{}, false
	}
	n.Kids = slices.Insert(n.Kids, i+1, more.no)
	n.Keys = slices.Insert(n.Keys, i, more.low)
	return keep(w.s, no, n)
}

// with answers cells with c as the cell of its key.
func with(cells []cell.Cell, c cell.Cell) []cell.Cell {
	i, has := place(cells, c.Key)
	if has {
		cells[i] = c
		return cells
	}
	return slices.Insert(cells, i, c)
}

// keep makes n the page no. If n is too long it is cut in two: the page of the
// second half is answered, and true.
func keep(s *sheet.Sheet, no int, n node.Node) (part, bool) {
	if node.Size(n) <= api.PageSize {
		set(s, no, n)
		return part{}, false
	}
	left, low, right := cut(n)
	set(s, no, left)
	return part{no: add(s, right), low: low}, true
}

// cut answers the halves of n, as much of a size as can be, and the key at
// which the second begins. n is no more than a page and one thing, and no thing
// is long, so that both fit.
func cut(n node.Node) (node.Node, string, node.Node) {
	at, least := 0, 0
	for i := 1; i < len(n.Cells)+len(n.Kids); i++ {
		left, _, right := cutAt(n, i)
		size := max(node.Size(left), node.Size(right))
		if at == 0 || size < least {
			at, least = i, size
		}
	}
	return cutAt(n, at)
}

// cutAt answers what of n is ahead of its cell i, or its kid i, and the rest,
// and the key at which that begins.
func cutAt(n node.Node, i int) (node.Node, string, node.Node) {
	if n.Leaf {
		low := key.Mid(n.Cells[i-1].Key, n.Cells[i].Key)
		return node.Node{Leaf: true, Cells: n.Cells[:i]}, low, node.Node{Leaf: true, Cells: n.Cells[i:]}
	}
	return node.Node{Kids: n.Kids[:i], Keys: n.Keys[:i-1]}, n.Keys[i-1], node.Node{Kids: n.Kids[i:], Keys: n.Keys[i:]}
}

// set makes n the page no. What is made of pages that are not right may be no
// node, though none is too long.
func set(s *sheet.Sheet, no int, n node.Node) {
	b, err := node.Encode(n)
	guard.Check(err == api.OK, api.ErrCorrupt)
	s.Set(no, b)
}

// add makes n a page that was free, and answers its number.
func add(s *sheet.Sheet, n node.Node) int {
	no, err := alloc.Take(s)
	must(err)
	set(s, no, n)
	return no
}

// begin makes the tree begin at the page no; 0: it is empty.
func begin(s *sheet.Sheet, no int) { must(alloc.SetRoot(s, no)) }
