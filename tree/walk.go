package tree

import (
	"engross/alloc"
	"engross/api"
	"engross/cell"
	"engross/guard"
	"engross/key"
	"engross/node"
	"engross/sheet"
)

const book = 1 // the page that says where the tree begins

// walk goes through a tree's pages, to each of them once: one that is come to
// again is in a ring, or below two others.
type walk struct {
	s    *sheet.Sheet
	seen [api.DataPages]bool
}

// come breaks, if the page no can't be the tree's.
func (w *walk) come(no int) {
	used, err := alloc.Used(w.s, no)
	must(err)
	guard.Check(used && !w.seen[no], api.ErrCorrupt)
	w.seen[no] = true
}

// node comes to the page no, and answers what it has. The page 0 is that of an
// empty tree: as if it were a leaf without cells.
func (w *walk) node(no int) node.Node {
	if no == 0 {
		return node.Node{Leaf: true}
	}
	w.come(no)
	return read(w.s.Must(no))
}

// cells answers those at and below the page no whose keys are in the span. It
// comes to no other pages than those that may have some.
func (w *walk) cells(no int, from, to string) []cell.Cell {
	n := w.node(no)
	if n.Leaf {
		return within(n.Cells, from, to)
	}
	at := node.Kid(n, from)
	l := w.cells(n.Kids[at], from, to)
	for i := at; i < len(n.Keys) && key.In(n.Keys[i], from, to); i++ {
		l = append(l, w.cells(n.Kids[i+1], from, to)...)
	}
	return l
}

// all comes to the page no and all below it.
func (w *walk) all(no int) {
	for _, kid := range w.node(no).Kids {
		w.all(kid)
	}
}

// been answers the pages that w came to, rising.
func (w *walk) been() []int {
	var l []int
	for no, seen := range w.seen {
		if seen {
			l = append(l, no)
		}
	}
	return l
}

// get answers the cell of the key k, and whether there is one.
func get(s *sheet.Sheet, k string) (cell.Cell, bool) {
	w := walk{s: s}
	n := w.node(first(s))
	for !n.Leaf {
		n = w.node(n.Kids[node.Kid(n, k)])
	}
	i, has := place(n.Cells, k)
	if !has {
		return cell.Cell{}, false
	}
	return n.Cells[i], true
}

// scan answers the cells whose keys are in the span.
func scan(s *sheet.Sheet, from, to string) []cell.Cell {
	w := walk{s: s}
	return w.cells(first(s), from, to)
}

// pages answers those of the tree, rising.
func pages(s *sheet.Sheet) []int {
	w := walk{s: s}
	w.all(first(s))
	return w.been()
}

// first answers the page at which the tree begins, 0 if it is empty.
func first(s *sheet.Sheet) int {
	no, err := alloc.Root(s)
	if err == api.ErrRange {
		// It says so of a byte that is no page's. But the page itself may
		// tell just that error.
		s.Must(book)
		err = api.ErrCorrupt
	}
	must(err)
	return no
}

// read answers the node whose page b is.
func read(b []byte) node.Node {
	n, err := node.Decode(b)
	must(err)
	return n
}

// place answers where in cells the key k is, or would be, and whether it is.
func place(cells []cell.Cell, k string) (int, bool) {
	i := 0
	for i < len(cells) && cells[i].Key < k {
		i++
	}
	return i, i < len(cells) && cells[i].Key == k
}

// within answers those of cells whose keys are in the span.
func within(cells []cell.Cell, from, to string) []cell.Cell {
	var l []cell.Cell
	for _, c := range cells {
		if key.In(c.Key, from, to) {
			l = append(l, c)
		}
	}
	return l
}

// must breaks with err, if it is one.
func must(err api.Errno) { guard.Check(err == api.OK, err) }
