package tree

import (
	"slices"

	"engross/alloc"
	"engross/node"
	"engross/sheet"
)

// del takes away the cell of the key k, and answers whether there was one.
func del(s *sheet.Sheet, k string) bool {
	no := first(s)
	w := walk{s: s}
	had, gone := w.del(no, k)
	if gone {
		begin(s, 0)
	} else if had {
		lower(s, no)
	}
	return had
}

// del takes away the cell of the key k at or below the page no, and answers
// whether there was one, and whether the page was given back.
func (w *walk) del(no int, k string) (had, gone bool) {
	n := w.node(no)
	if n.Leaf {
		i, has := place(n.Cells, k)
		if !has {
			return false, false
		}
		n.Cells = slices.Delete(n.Cells, i, i+1)
		return true, leave(w.s, no, n)
	}
	i := node.Kid(n, k)
	had, gone = w.del(n.Kids[i], k)
	if !gone {
		return had, false
	}
	return true, leave(w.s, no, without(n, i))
}

// without answers n without its kid i. That one's span falls to the kid ahead
// of it, or, where there is none, to the next.
func without(n node.Node, i int) node.Node {
	n.Kids = slices.Delete(n.Kids, i, i+1)
	if len(n.Keys) > 0 {
		j := max(i-1, 0)
		n.Keys = slices.Delete(n.Keys, j, j+1)
	}
	return n
}

// leave makes n the page no, or gives the page back, if n has nothing: did it
// do that?
func leave(s *sheet.Sheet, no int, n node.Node) bool {
	if len(n.Cells)+len(n.Kids) > 0 {
		set(s, no, n)
		return false
	}
	must(alloc.Free(s, no))
	return true
}

// lower gives the first page back, if it is nothing but the way to another
// one: there the tree begins then.
func lower(s *sheet.Sheet, no int) {
	n := read(s.Must(no))
	if len(n.Kids) == 1 {
		begin(s, n.Kids[0])
		must(alloc.Free(s, no))
	}
}
