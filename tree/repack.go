package tree

import (
	"engross/alloc"
	"engross/api"
	"engross/cell"
	"engross/key"
	"engross/node"
	"engross/sheet"
)

// repack makes c the cell of its key, and lays all cells anew, in as few pages
// as they need.
func repack(s *sheet.Sheet, c cell.Cell) {
	w := walk{s: s}
	cells := with(w.cells(first(s), "", ""), c)
	for _, no := range w.been() {
		must(alloc.Free(s, no))
	}
	l := leaves(s, cells)
	for len(l) > 1 {
		l = forks(s, l)
	}
	begin(s, l[0].no)
}

// leaves lays cells.
func leaves(s *sheet.Sheet, cells []cell.Cell) []part {
	of := func(from, to int) node.Node { return node.Node{Leaf: true, Cells: cells[from:to]} }
	low := func(i int) string { return key.Mid(cells[i-1].Key, cells[i].Key) }
	return pack(s, len(cells), of, low)
}

// forks lays the ways to the pages of l.
func forks(s *sheet.Sheet, l []part) []part {
	of := func(from, to int) node.Node {
		n := node.Node{Kids: []int{l[from].no}}
		for _, x := range l[from+1 : to] {
			n.Kids = append(n.Kids, x.no)
			n.Keys = append(n.Keys, x.low)
		}
		return n
	}
	low := func(i int) string { return l[i].low }
	return pack(s, len(l), of, low)
}

// pack lays count things, each page as full as can be. of answers the node of
// those from from on, below to, low the key at which the one i begins, which
// is not the first.
func pack(s *sheet.Sheet, count int, of func(from, to int) node.Node, low func(i int) string) []part {
	var l []part
	for from := 0; from < count; {
		to := end(from, count, of)
		x := part{no: add(s, of(from, to))}
		if from > 0 {
			x.low = low(from)
		}
		l = append(l, x)
		from = to
	}
	return l
}

// end answers where the page ends that begins with the thing from. A thing
// takes as many bytes behind any other ones.
func end(from, count int, of func(from, to int) node.Node) int {
	size := node.Size(of(from, from+1))
	for i := from + 1; i < count; i++ {
		size += node.Size(of(i-1, i+1)) - node.Size(of(i-1, i))
		if size > api.PageSize {
			return i
		}
	}
	return count
}
