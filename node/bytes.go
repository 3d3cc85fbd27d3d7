package node

import (
	"bytes"

	"engross/api"
	"engross/cell"
	"engross/num"
)

// The first byte of a page.
const (
	leafMark = 1
	forkMark = 2
)

// Encode answers the page of n.
func Encode(n Node) ([]byte, api.Errno) {
	if !May(n) {
		return nil, api.ErrForm
	}
	b := write(n)
	if len(b) > api.PageSize {
		return nil, api.ErrFull
	}
	page := make([]byte, api.PageSize)
	copy(page, b)
	return page, api.OK
}

// Decode answers the node whose page b is.
func Decode(b []byte) (Node, api.Errno) {
	if len(b) != api.PageSize {
		return Node{}, api.ErrCorrupt
	}
	n, ok := read(b)
	if !ok {
		return Node{}, api.ErrCorrupt
	}
	// read asks neither whether the node may be nor what stands behind it:
	// its page does.
	page, err := Encode(n)
	if err != api.OK || !bytes.Equal(page, b) {
		return Node{}, api.ErrCorrupt
	}
	return n, api.OK
}

// write answers the bytes of a node that may be, without the noughts.
func write(n Node) []byte {
	if n.Leaf {
		return writeLeaf(n.Cells)
	}
	return writeFork(n.Kids, n.Keys)
}

// writeLeaf makes each cell's bytes alone: a Put behind the others would copy
// all of these again.
func writeLeaf(cells []cell.Cell) []byte {
	b := num.Put([]byte{leafMark}, int64(len(cells)))
	for _, c := range cells {
		b = append(b, cell.Put(nil, c)...)
	}
	return b
}

func writeFork(kids []int, keys []string) []byte {
	b := num.Put([]byte{forkMark}, int64(len(kids)))
	for _, no := range kids {
		b = num.Put(b, int64(no))
	}
	for _, s := range keys {
		b = num.PutText(b, s)
	}
	return b
}

// read answers the node at the beginning of a page, as far as its parts can
// be read.
func read(b []byte) (Node, bool) {
	count, k, err := num.Get(b[1:])
	if err != api.OK {
		return Node{}, false
	}
	parts := b[1+k:]
	switch b[0] {
	case leafMark:
		return readLeaf(parts, count)
	case forkMark:
		return readFork(parts, count)
	}
	return Node{}, false
}

// readLeaf may be told any count: each cell takes some bytes, so that a wrong
// one ends with them.
func readLeaf(b []byte, count int64) (Node, bool) {
	n := Node{Leaf: true}
	for range count {
		c, k, err := cell.Get(b)
		if err != api.OK {
			return Node{}, false
		}
		n.Cells = append(n.Cells, c)
		b = b[k:]
	}
	return n, true
}

// readFork may be told any count, as readLeaf.
func readFork(b []byte, count int64) (Node, bool) {
	n := Node{}
	for range count {
		no, k, err := num.Get(b)
		if err != api.OK {
			return Node{}, false
		}
		n.Kids = append(n.Kids, int(no))
		b = b[k:]
	}
	for range len(n.Kids) - 1 {
		s, k, err := num.GetText(b)
		if err != api.OK {
			return Node{}, false
		}
		n.Keys = append(n.Keys, s)
		b = b[k:]
	}
	return n, true
}
