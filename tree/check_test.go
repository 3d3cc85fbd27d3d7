package tree

import (
	"bytes"
	"fmt"
	"slices"
	"strings"
	"testing"

	"engross/api"
	"engross/cell"
	"engross/node"
	"engross/sheet"
)

func leafOf(names ...string) node.Node {
	n := node.Node{Leaf: true}
	for _, k := range names {
		n.Cells = append(n.Cells, cellOf(k, "v"))
	}
	return n
}

func forkOf(kids []int, keys ...string) node.Node { return node.Node{Kids: kids, Keys: keys} }

// three is a tree of three levels.
func three() map[int]node.Node {
	return map[int]node.Node{
		2: forkOf([]int{3, 4}, "m"),
		3: forkOf([]int{5, 6}, "f"),
		4: forkOf([]int{7, 8}, "t"),
		5: leafOf("a", "c"),
		6: leafOf("f", "h"),
		7: leafOf("m", "p"),
		8: leafOf("t", "z"),
	}
}

// but is the tree of three levels, from the page 2 on, with the page no
// otherwise.
func but(no int, n node.Node) *ground {
	nodes := three()
	nodes[no] = n
	return ready(2, nodes)
}

// checks asks that Check is want, and the tests' own check too.
func checks(t *testing.T, what string, p sheet.Pages, want api.Errno) {
	t.Helper()
	if wrong := studied(p).wrong; (wrong == "") != (want == api.OK) {
		t.Fatalf("%s: it is no case of error %d: %q", what, want, wrong)
	}
	if err := Check(p); err != want {
		t.Errorf("P14.2: %s: Check = %d, want %d", what, err, want)
	}
	bears(t, what, p)
}

// bears asks that every call ends and does not panic, whatever the pages are,
// tells no other errors than it may, nothing beside one, and that an error
// changes nothing.
func bears(t *testing.T, what string, p sheet.Pages) {
	t.Helper()
	was := copied(p)
	for _, k := range []string{"", "a", "b", "f", "lll", "m", "zz", "\xff\xff", strings.Repeat("k", 17)} {
		c, is, err := Get(p, k)
		if is && (err != api.OK || c.Key != k) || !is && !same(c, cell.Cell{}) || err != api.OK && err != api.ErrCorrupt {
			t.Errorf("P14.2: %s: Get(%q) = %v, %v, %d", what, k, c, is, err)
		}
		l, err := Scan(p, k, "m")
		if err != api.OK && (len(l) > 0 || err != api.ErrCorrupt) {
			t.Errorf("P14.2: %s: Scan(%q, m) = %v, %d", what, k, l, err)
		}
	}
	l, err := Scan(p, "", "")
	if err != api.OK && (len(l) > 0 || err != api.ErrCorrupt) {
		t.Errorf("P14.2: %s: Scan = %v, %d", what, l, err)
	}
	nos, err := Pages(p)
	if !slices.IsSorted(nos) || err != api.OK && (len(nos) > 0 || err != api.ErrCorrupt) {
		t.Errorf("P14.2: %s: Pages = %v, %d", what, nos, err)
	}
	if err := Check(p); err != api.OK && err != api.ErrCorrupt {
		t.Errorf("P14.2: %s: Check = %d", what, err)
	}
	s := sheet.New(p)
	stays(t, "P0.5: "+what, s, was)
	bearsChanges(t, what, s)
	stays(t, "P0.3: "+what+", beneath", p, was)
}

func bearsChanges(t *testing.T, what string, s *sheet.Sheet) {
	t.Helper()
	for _, k := range []string{"a", "bb", "g", "m", "n", "zz", "\x00", strings.Repeat("k", 16)} {
		for _, c := range []cell.Cell{shortest(k), longest(k)} {
			ahead := s.Changes()
			err := Put(s, c)
			if err != api.OK && err != api.ErrCorrupt && err != api.ErrFull {
				t.Errorf("P14.2: %s: Put(%v) = %d", what, c, err)
			}
			if err != api.OK {
				unchanged(t, "P14.2: "+what+": Put", s, ahead)
			} else if got, is, e := Get(s, k); !is || !same(got, c) || e != api.OK {
				t.Errorf("P14.2: %s: Put(%v) = OK, then Get = %v, %v, %d", what, c, got, is, e)
			}
		}
	}
	for _, k := range []string{"", "a", "bb", "c", "h", "m", "n", "t", "z", "zz", strings.Repeat("k", 17)} {
		ahead := s.Changes()
		had, err := Del(s, k)
		if had && err != api.OK || err != api.OK && err != api.ErrCorrupt {
			t.Errorf("P14.2: %s: Del(%q) = %v, %d", what, k, had, err)
		}
		if !had {
			unchanged(t, "P14.2: "+what+": Del", s, ahead)
		}
	}
}

func TestCheckOfRightTrees(t *testing.T) {
	checks(t, "noughts", noughts(), api.OK)
	checks(t, "three levels", ready(2, three()), api.OK)
	for _, n := range []node.Node{leafOf(), leafOf("a"), leafOf("\x00", "\xff")} {
		for no := 2; no <= 31; no++ {
			checks(t, "a leaf", ready(no, map[int]node.Node{no: n}), api.OK)
		}
	}
	// A fork of one kid is not empty.
	for forks := range 30 {
		checks(t, fmt.Sprintf("a leaf below %d forks", forks), chain(forks, leafOf("a", "b").Cells), api.OK)
	}
	// Up to the bounds, and without those that may be missing.
	for no, l := range map[int][]node.Node{
		5: {leafOf("\x00"), leafOf("e\xff\xff"), leafOf("\x00", "e\xff\xff\xff")},
		6: {leafOf("f"), leafOf("f\x00"), leafOf("l\xff\xff"), leafOf("f", "l\xff")},
		7: {leafOf("m"), leafOf("m\x00"), leafOf("s\xff\xff"), leafOf("m", "s\xff")},
		8: {leafOf("t"), leafOf("t\x00"), leafOf("\xff\xff\xff"), leafOf("t", strings.Repeat("\xff", 16))},
	} {
		for _, n := range l {
			checks(t, fmt.Sprint("the page ", no, ": ", n), but(no, n), api.OK)
		}
	}
	checks(t, "another key", but(2, forkOf([]int{3, 4}, "i")), api.OK)
	checks(t, "another key", but(2, forkOf([]int{3, 4}, "h\x00")), api.OK)
	checks(t, "another key", but(3, forkOf([]int{5, 6}, "c\x00")), api.OK)
	checks(t, "another key", but(4, forkOf([]int{7, 8}, "p\x00\x00")), api.OK)
}

func TestCheckOfAnotherFifthByte(t *testing.T) {
	for x := range 256 {
		g := ready(2, three())
		g.pages[1][4] = byte(x)
		want := api.ErrCorrupt
		if x == 2 {
			want = api.OK
		}
		checks(t, fmt.Sprint("the fifth byte ", x), g, want)
		g = noughts()
		g.pages[1][4] = byte(x)
		want = api.ErrCorrupt
		if x == 0 {
			want = api.OK
		}
		checks(t, fmt.Sprint("the fifth byte ", x, " of noughts"), g, want)
		if x == 1 || x > 31 {
			told(t, fmt.Sprint("the fifth byte ", x), g, "a", api.ErrCorrupt)
		}
	}
}

// told asks that all calls tell this error, and nothing beside it.
func told(t *testing.T, what string, p sheet.Pages, k string, want api.Errno) {
	t.Helper()
	if c, is, err := Get(p, k); is || !same(c, cell.Cell{}) || err != want {
		t.Errorf("P14.2: %s: Get(%q) = %v, %v, %d, want %d", what, k, c, is, err, want)
	}
	if l, err := Scan(p, k, k+"\x00"); len(l) > 0 || err != want {
		t.Errorf("P14.2: %s: Scan(%q) = %v, %d, want %d", what, k, l, err, want)
	}
	if l, err := Scan(p, "", ""); len(l) > 0 || err != want {
		t.Errorf("P14.2: %s: Scan = %v, %d, want %d", what, l, err, want)
	}
	if err := Check(p); err != want {
		t.Errorf("P14.2: %s: Check = %d, want %d", what, err, want)
	}
	if l, err := Pages(p); len(l) > 0 || err != want {
		t.Errorf("P14.2: %s: Pages = %v, %d, want %d", what, l, err, want)
	}
	s, is := p.(*sheet.Sheet)
	if !is {
		s = sheet.New(p)
	}
	toldByChanges(t, what, s, k, want)
}

func toldByChanges(t *testing.T, what string, s *sheet.Sheet, k string, want api.Errno) {
	t.Helper()
	ahead := s.Changes()
	if err := Put(s, cellOf(k, "other")); err != want {
		t.Errorf("P14.2: %s: Put(%q) = %d, want %d", what, k, err, want)
	}
	if had, err := Del(s, k); had || err != want {
		t.Errorf("P14.2: %s: Del(%q) = %v, %d, want %d", what, k, had, err, want)
	}
	unchanged(t, what, s, ahead)
}

func TestCheckOfAPageThatIsNoNode(t *testing.T) {
	for no := 2; no <= 8; no++ {
		for what, change := range map[string]func(b []byte){
			"noughts":        func(b []byte) { clear(b) },
			"other bytes":    func(b []byte) { copy(b, bytes.Repeat([]byte{0xff}, 256)) },
			"twos":           func(b []byte) { copy(b, bytes.Repeat([]byte{2}, 256)) },
			"a byte behind":  func(b []byte) { b[255] = 1 },
			"a byte ahead":   func(b []byte) { copy(b[1:], slices.Clone(b)) },
			"no first byte":  func(b []byte) { copy(b, b[1:]) },
			"another number": func(b []byte) { b[1] = 40 },
			"of odd number":  func(b []byte) { b[1] |= 1 },
		} {
			g := ready(2, three())
			change(g.pages[no])
			checks(t, fmt.Sprint("the page ", no, ": ", what), g, api.ErrCorrupt)
			told(t, fmt.Sprint("the page ", no, ": ", what), g, keyBelow(no), api.ErrCorrupt)
		}
		for _, b := range [][]byte{nil, {}, {1}, make([]byte, 255), make([]byte, 257)} {
			g := ready(2, three())
			g.pages[no] = b
			if err := Check(g); err != api.ErrCorrupt {
				t.Errorf("P14.2: the page %d of %d bytes: Check = %d", no, len(b), err)
			}
			g.pages[no] = append(slices.Clone(ready(2, three()).pages[no]), 0)
			if err := Check(g); err != api.ErrCorrupt {
				t.Errorf("P14.2: the page %d of a byte more: Check = %d", no, err)
			}
		}
	}
	for _, b := range [][]byte{nil, {}, {0, 0, 0, 0, 2}, make([]byte, 255), make([]byte, 257)} {
		g := ready(2, three())
		g.pages[1] = b
		told(t, fmt.Sprintf("the page 1 of %d bytes", len(b)), g, "a", api.ErrCorrupt)
	}
}

// keyBelow is a key of which the page no must be read.
func keyBelow(no int) string { return []string{"", "", "a", "a", "m", "a", "f", "m", "t"}[no] }

// Each bit of each page turned: what is right then is told as right, and all
// other trees as not.
func TestCheckOfOneBitTurned(t *testing.T) {
	right := 0
	for no := 1; no <= 8; no++ {
		for bit := range 2048 {
			g := ready(2, three())
			g.pages[no][bit/8] ^= 1 << (bit % 8)
			want := studied(g).wrong
			if want == "" {
				right++
			}
			if err := Check(g); (err == api.OK) != (want == "") || err != api.OK && err != api.ErrCorrupt {
				t.Errorf("P14.2: the page %d, bit %d: Check = %d, but %q", no, bit, err, want)
			}
			if bit < 80 {
				bears(t, fmt.Sprint("the page ", no, ", bit ", bit), g)
			}
		}
	}
	if right < 10 {
		t.Errorf("of all bits %d were of no weight", right)
	}
}

func TestCheckOfOtherKids(t *testing.T) {
	for no := 2; no <= 4; no++ {
		for i := range 2 {
			for kid := 2; kid <= 31; kid++ {
				n := three()[no]
				n.Kids = slices.Clone(n.Kids)
				want := api.ErrCorrupt
				if n.Kids[i] == kid {
					want = api.OK
				}
				n.Kids[i] = kid
				checks(t, fmt.Sprintf("the page %d: its kid %d is %d", no, i, kid), but(no, n), want)
			}
		}
	}
	// Numbers that are no page's, written by hand: they are no nodes.
	for _, kid := range []byte{0, 1, 2, 3, 5, 64, 66, 126, 127} {
		g := ready(2, three())
		g.pages[2][2] = kid
		checks(t, fmt.Sprintf("a kid of byte %d", kid), g, api.ErrCorrupt)
	}
	checks(t, "it is its own kid", ready(2, map[int]node.Node{2: forkOf([]int{2})}), api.ErrCorrupt)
	checks(t, "it is its own second kid", ready(2, map[int]node.Node{2: forkOf([]int{3, 2}, "m"), 3: leafOf("a")}), api.ErrCorrupt)
	checks(t, "a ring of two", ready(2, map[int]node.Node{2: forkOf([]int{3}), 3: forkOf([]int{2})}), api.ErrCorrupt)
	checks(t, "a leaf twice", ready(2, map[int]node.Node{2: forkOf([]int{3, 3}, "m"), 3: leafOf("a")}), api.ErrCorrupt)
	checks(t, "a kid that is not there", ready(2, map[int]node.Node{2: forkOf([]int{3})}), api.ErrCorrupt)
	ring := map[int]node.Node{31: forkOf([]int{2})}
	for no := 2; no <= 30; no++ {
		ring[no] = forkOf([]int{no + 1})
	}
	checks(t, "a ring of all pages", ready(2, ring), api.ErrCorrupt)
	// Of each kid 32 times: there are very many ways.
	many := map[int]node.Node{31: leafOf("a")}
	keys := []string{}
	for i := range 31 {
		keys = append(keys, string([]byte{byte(i + 65)}))
	}
	for no := 2; no <= 30; no++ {
		many[no] = forkOf(slices.Repeat([]int{no + 1}, 32), keys...)
	}
	checks(t, "very many ways", ready(2, many), api.ErrCorrupt)
}

func TestCheckOfLeavesThatAreNotEquallyDeep(t *testing.T) {
	for no := 5; no <= 8; no++ {
		g := but(no, forkOf([]int{9}))
		g.lay(9, three()[no])
		checks(t, fmt.Sprint("the leaf of ", no, " is deeper"), g, api.ErrCorrupt)
	}
	for no, n := range map[int]node.Node{3: leafOf("a", "c", "f"), 4: leafOf("m", "p", "t")} {
		nodes := three()
		nodes[no] = n
		for _, kid := range three()[no].Kids {
			delete(nodes, kid)
		}
		checks(t, fmt.Sprint("the leaf ", no, " is less deep"), ready(2, nodes), api.ErrCorrupt)
	}
}

func TestCheckOfKeys(t *testing.T) {
	for no, l := range map[int][]node.Node{
		5: {leafOf("f"), leafOf("a", "f"), leafOf("a", "z"), leafOf("m"), leafOf("f\x00")},
		6: {leafOf("a"), leafOf("e\xff"), leafOf("e", "h"), leafOf("m"), leafOf("h", "m"), leafOf("h", "m\x00"), leafOf("h", "z"), leafOf("c", "h")},
		7: {leafOf("l\xff"), leafOf("h", "p"), leafOf("a"), leafOf("t"), leafOf("p", "t"), leafOf("p", "z"), leafOf("p", "t\x00")},
		8: {leafOf("s\xff"), leafOf("a", "z"), leafOf("p", "z"), leafOf("m"), leafOf("a"), leafOf("\x00")},
		// Keys of forks that leave their kids other spans.
		2: {forkOf([]int{3, 4}, "a"), forkOf([]int{3, 4}, "h"), forkOf([]int{3, 4}, "f"), forkOf([]int{3, 4}, "m\x00"), forkOf([]int{3, 4}, "z"), forkOf([]int{4, 3}, "m")},
		3: {forkOf([]int{5, 6}, "a"), forkOf([]int{5, 6}, "c"), forkOf([]int{5, 6}, "f\x00"), forkOf([]int{5, 6}, "m"), forkOf([]int{5, 6}, "z"), forkOf([]int{6, 5}, "f")},
		4: {forkOf([]int{7, 8}, "a"), forkOf([]int{7, 8}, "m"), forkOf([]int{7, 8}, "p"), forkOf([]int{7, 8}, "t\x00"), forkOf([]int{7, 8}, "\xff"), forkOf([]int{8, 7}, "t")},
	} {
		for _, n := range l {
			checks(t, fmt.Sprint("the page ", no, ": ", n), but(no, n), api.ErrCorrupt)
		}
	}
	// Within a page, written by hand: the order, and the same key twice.
	for no, k := range map[int][]byte{5: {'a', 'c'}, 6: {'f', 'h'}, 7: {'m', 'p'}, 8: {'t', 'z'}} {
		at := bytes.IndexByte(ready(2, three()).pages[no], k[1])
		for x := range 256 {
			g := ready(2, three())
			g.pages[no][at] = byte(x)
			if want := studied(g).wrong; x <= int(k[0]) && want == "" {
				t.Fatalf("the page %d: %d is no fault", no, x)
			} else if err := Check(g); (err == api.OK) != (want == "") {
				t.Errorf("P14.2: the page %d with a key %q: Check = %d, but %q", no, []byte{byte(x)}, err, want)
			}
		}
	}
	// The same key in two leaves, in all pairs.
	for no := 5; no <= 8; no++ {
		for other := 5; other <= 8; other++ {
			if other != no {
				checks(t, "a key twice", but(no, three()[other]), api.ErrCorrupt)
			}
		}
	}
}

func TestCheckOfEmptyPages(t *testing.T) {
	for no := 5; no <= 8; no++ {
		checks(t, fmt.Sprint("the leaf ", no, " is empty"), but(no, leafOf()), api.ErrCorrupt)
	}
	checks(t, "an empty leaf alone below a fork", ready(2, map[int]node.Node{2: forkOf([]int{3}), 3: leafOf()}), api.ErrCorrupt)
	// Forks without kids, or without the key between them, written by hand.
	for no := 2; no <= 4; no++ {
		for _, s := range []string{"\x02\x00", "\x02", "\x02\x04\x06\x08", "\x02\x02", "\x02\x04\x06\x08\x00", "\x02\x06\x06\x08\x0a\x02m"} {
			g := ready(2, three())
			clear(g.pages[no])
			copy(g.pages[no], s)
			checks(t, fmt.Sprintf("the fork %d is %x", no, s), g, api.ErrCorrupt)
		}
	}
}

func TestCheckOfPagesInUse(t *testing.T) {
	for no := 2; no <= 31; no++ {
		g := ready(2, three())
		g.pages[1][no/8] ^= 1 << (no % 8)
		checks(t, fmt.Sprint("the bit of the page ", no), g, api.ErrCorrupt)
		g = noughts()
		g.pages[1][no/8] ^= 1 << (no % 8)
		checks(t, fmt.Sprint("noughts, and the bit of the page ", no), g, api.ErrCorrupt)
	}
	// One that is the tree's is not in use, and another one is.
	for no := 2; no <= 8; no++ {
		for other := 9; other <= 31; other++ {
			g := ready(2, three())
			g.pages[1][no/8] ^= 1 << (no % 8)
			g.pages[1][other/8] ^= 1 << (other % 8)
			if err := Check(g); err != api.ErrCorrupt {
				t.Errorf("P14.2: in use is %d, not %d: Check = %d", other, no, err)
			}
		}
	}
	// Bits of the pages 0 and 1 say nothing.
	g := ready(2, three())
	g.pages[1][0] |= 3
	checks(t, "the bits of the pages 0 and 1", g, api.OK)
	// A tree beside the tree.
	g = ready(2, three())
	g.lay(9, leafOf("a"))
	checks(t, "a leaf beside the tree", g, api.ErrCorrupt)
	g = ready(3, three())
	checks(t, "a part of the tree", g, api.ErrCorrupt)
}

// A tree's page replaced by another one of its pages.
func TestPagesOfTheTreeInOtherPlaces(t *testing.T) {
	for seed := range 4 {
		r := seeded(seed)
		big := ready(2, three())
		if seed > 0 {
			big = planted(r, 2+seed%3, 3, r.cell)
		}
		nos := studied(big).pages
		for _, no := range nos {
			for _, from := range append(nos, 1) {
				g := copied(big)
				g.pages[no] = slices.Clone(big.pages[from])
				what := fmt.Sprintf("%d: the page %d is as %d", seed, no, from)
				want := api.ErrCorrupt
				if no == from {
					want = api.OK
				}
				checks(t, what, g, want)
			}
		}
	}
}

// Whatever stands in the pages.
func TestAnythingInThePages(t *testing.T) {
	for seed := range 1500 {
		r := seeded(seed)
		g := noughts()
		for no := 1; no <= 31; no++ {
			switch (seed + no/8*(seed%2)) % 3 {
			case 0:
				g.pages[no] = r.bytes(256)
			case 1:
				g.lay(no, r.node())
			default:
				copy(g.pages[no], r.bytes(r.below(12)))
				g.pages[no][0] = byte(1 + r.below(2))
			}
		}
		copy(g.pages[1], bytes.Repeat([]byte{0xff}, 4))
		if seed%4 == 0 {
			copy(g.pages[1], r.bytes(4))
		}
		g.pages[1][4] = byte(2 + r.below(30))
		want := studied(g).wrong
		if err := Check(g); (err == api.OK) != (want == "") {
			t.Errorf("P14.2: anything %d: Check = %d, but %q", seed, err, want)
		}
		bears(t, fmt.Sprint("anything ", seed), g)
	}
}

// node is any node, whatever its kids are.
func (s *source) node() node.Node {
	names := map[string]int{}
	for range s.below(9) {
		names[string([]byte{byte(s.below(256))})+s.word(s.below(4))] = 0
	}
	keys := slices.Sorted(func(yield func(string) bool) {
		for k := range names {
			if !yield(k) {
				return
			}
		}
	})
	if s.below(2) == 0 {
		n := node.Node{Leaf: true}
		for _, k := range keys {
			n.Cells = append(n.Cells, cellOf(k, s.word(s.below(12))))
		}
		return n
	}
	n := node.Node{Keys: keys}
	for range len(keys) + 1 {
		n.Kids = append(n.Kids, 2+s.below(30))
	}
	return n
}

// Trees that are changed a little: Check says of them what the tests' own check
// says.
func TestCheckOfManyTrees(t *testing.T) {
	right := 0
	for seed := range 4000 {
		r := seeded(seed)
		g := planted(r, 1+r.below(4), 1+r.below(3), shortest)
		for range r.below(3) {
			nos := studied(g).pages
			g.spoil(r, nos[r.below(len(nos))])
		}
		want := studied(g).wrong
		if want == "" {
			right++
		}
		if err := Check(g); (err == api.OK) != (want == "") {
			t.Errorf("P14.2: tree %d: Check = %d, but %q", seed, err, want)
		}
	}
	if right < 500 || right > 3500 {
		t.Errorf("of 4000 trees %d were right", right)
	}
}

// spoil changes the page no a little, perhaps so that it is right still.
func (g *ground) spoil(r *source, no int) {
	n, err := node.Decode(g.pages[no])
	if r.below(3) == 0 || err != api.OK {
		g.pages[no][r.below(40)] = byte(r.next() >> 20)
		return
	}
	if n.Leaf {
		n.Cells = n.Cells[r.below(len(n.Cells)+1):]
	}
	for i := range n.Keys {
		n.Keys[i] = fmt.Sprintf("%05d", r.below(300))
	}
	slices.Sort(n.Keys)
	if node.May(n) {
		g.lay(no, n)
	}
}

// A page that can't be read hides no fault of another one.
func TestCheckOfAFaultAndAnError(t *testing.T) {
	for no := 2; no <= 8; no++ {
		for other := 5; other <= 8; other++ {
			above := three()[no].Kids
			if no == other || no == 2 || slices.Contains(above, other) {
				continue
			}
			g := but(other, leafOf())
			g.errs[no] = api.ErrDown
			if err := Check(g); err != api.ErrCorrupt {
				t.Errorf("P0.2: %d can't be read, %d is empty: Check = %d, want ErrCorrupt", no, other, err)
			}
		}
	}
	// What can't be read is not missed.
	g := ready(2, three())
	g.errs[4], g.errs[6] = api.ErrBusy, api.ErrDown
	if err := Check(g); err != api.ErrDown {
		t.Errorf("P14.2: the pages 6 and 4 can't be read: Check = %d, want the error of the first", err)
	}
}
