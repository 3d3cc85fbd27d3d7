package tree

import (
	"engross/alloc"
	"engross/api"
	"engross/guard"
	"engross/key"
	"engross/node"
	"engross/sheet"
)

// checking is a walk that asks of each page what must be so.
type checking struct {
	walk
	depth int       // of the leaves; 0: there was none yet
	err   api.Errno // what a page told that can't be read, the first one
}

// check breaks, if the tree is not right.
func check(s *sheet.Sheet) {
	c := checking{walk: walk{s: s}}
	if no := first(s); no != 0 {
		c.page(no, 1, "", "")
	}
	must(c.err)
	used, err := alloc.Count(s)
	must(err)
	// What was come to is in use, so that nothing else is.
	guard.Check(used == len(c.been()), api.ErrCorrupt)
}

// page asks the page no, and all below it, whose keys are from low on, below
// high. One that can't be read is no end: a fault of the others counts ahead
// of its error.
func (c *checking) page(no, depth int, low, high string) {
	c.come(no)
	b, err := c.s.Page(no)
	if err != api.OK {
		c.fail(err)
		return
	}
	n := read(b)
	if n.Leaf {
		c.leaf(n, depth, low, high)
		return
	}
	// A key that is not between low and high leaves one of the kids a span
	// without keys, and no leaf there may be empty.
	for i, kid := range n.Kids {
		from, to := low, high
		if i > 0 {
			from = n.Keys[i-1]
		}
		if i < len(n.Keys) {
			to = n.Keys[i]
		}
		c.page(kid, depth+1, from, to)
	}
}

func (c *checking) leaf(n node.Node, depth int, low, high string) {
	if c.depth == 0 {
		c.depth = depth
	}
	guard.Check(depth == c.depth, api.ErrCorrupt)
	guard.Check(depth == 1 || len(n.Cells) > 0, api.ErrCorrupt)
	for _, x := range n.Cells {
		guard.Check(key.In(x.Key, low, high), api.ErrCorrupt)
	}
}

// fail keeps err, if it is the first one.
func (c *checking) fail(err api.Errno) {
	if c.err == api.OK {
		c.err = err
	}
}
