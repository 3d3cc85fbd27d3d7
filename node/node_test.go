package node

import (
	"fmt"
	"math"
	"slices"
	"strings"
	"testing"

	"engross/api"
	"engross/cell"
)

const (
	oneNaN  = uint64(0x7ff8000000000000)
	signBit = uint64(1) << 63
)

func float(f float64) api.Val { return api.Val{Kind: api.VFloat, F: f} }

func text(s string) api.Val { return api.Val{Kind: api.VText, S: s} }

func cellOf(k string) cell.Cell { return cell.Cell{Key: k, Val: text("v")} }

func leaf(cells ...cell.Cell) Node { return Node{Leaf: true, Cells: cells} }

// leafOf has cells of seven bytes each, of Keys of two bytes.
func leafOf(keys ...string) Node {
	n := Node{Leaf: true}
	for _, k := range keys {
		n.Cells = append(n.Cells, cellOf(k))
	}
	return n
}

func fork(kids []int, keys ...string) Node { return Node{Kids: kids, Keys: keys} }

// rising are count keys of two bytes.
func rising(count int) []string {
	l := make([]string, count)
	for i := range l {
		l[i] = string([]byte{byte('a' + i/26), byte('a' + i%26)})
	}
	return l
}

// pages are count pages that a Kid may be.
func pages(count int) []int {
	l := make([]int, count)
	for i := range l {
		l[i] = 2 + i%30
	}
	return l
}

// widened makes s as long as it may be, or is asked to.
func widened(s string, length int) string { return s + strings.Repeat("x", length-len(s)) }

// leafOfSize has size bytes: 2, or from 8 on.
func leafOfSize(size int) Node {
	n := Node{Leaf: true}
	for i, rest := 0, size-2; rest > 0; i++ {
		take := min(rest, 40)
		if left := rest - take; left > 0 && left < 6 {
			take -= 6
		}
		length := min(take-4, 16)
		name := widened(rising(i + 1)[i], length)
		n.Cells = append(n.Cells, cell.Cell{Key: name, Val: text(strings.Repeat("v", take-4-length))})
		rest -= take
	}
	return n
}

// forkOfSize has kids Kids and size bytes: 2 to 17 of each Key, and one of
// each Kid.
func forkOfSize(kids, size int) Node {
	n := Node{Kids: pages(kids)}
	rest := size - 2 - kids
	for i := range kids - 1 {
		take := min(17, rest-2*(kids-2-i))
		n.Keys = append(n.Keys, widened(string(rune('A'+i)), take-1))
		rest -= take
	}
	return n
}

// goodCells may be, by rising Keys.
func goodCells() []cell.Cell {
	nan := math.Float64frombits(oneNaN)
	return []cell.Cell{
		{Key: "\x00", Val: text("")},
		{Key: "\x00\x00", Val: float(nan), Txn: 63},
		{Key: "a", Val: float(-1)},
		{Key: "ab", Txn: 5, New: text("two")},
		{Key: "b", Val: text("\x00\x00\x00"), Txn: 1 << 40, New: text("\x00")},
		{Key: strings.Repeat("k", 16), Val: text(strings.Repeat("x", 20)), Txn: 64, New: float(math.Inf(1))},
		{Key: "kz", Txn: 1},
		{Key: "値", Val: float(math.Float64frombits(signBit))},
		{Key: "\xff", Val: float(0.1), Txn: 7, New: float(nan)},
		{Key: strings.Repeat("\xff", 16), Val: text("z")},
	}
}

// fitting may be, and have 256 bytes or fewer.
func fitting() []Node {
	l := []Node{leaf(), leafOf("a"), leafOf("a", "b"), leafOf(rising(36)...), leaf(goodCells()...), leaf(goodCells()[8]),
		leafOfSize(8), leafOfSize(255), leafOfSize(256), leafOf("\x00", "\x00\x00", "\x00\x00\x00"), leafOf("\x7f", "\x80", "\xff"), leafOf("B", "a"),
		fork([]int{2}), fork([]int{31}), fork([]int{9}), fork([]int{2, 31}, "m"), fork([]int{31, 2}, "m"), fork([]int{3, 3}, "m"),
		fork([]int{2, 3, 4}, "f", "m"), fork(pages(32), rising(31)...), fork(pages(31), rising(30)...), fork([]int{2, 3, 4, 5}, "\x00", "\x00\x00", "\xff"),
		fork([]int{7, 8}, strings.Repeat("\xff", 16)), fork([]int{7, 8, 9}, strings.Repeat("k", 15), strings.Repeat("k", 16)), fork([]int{5, 6, 7}, "\x7f", "\x80"),
		forkOfSize(32, 255), forkOfSize(32, 256), forkOfSize(16, 256), forkOfSize(15, 256), forkOfSize(2, 22)}
	for _, c := range goodCells() {
		l = append(l, leaf(c))
	}
	return l
}

// tooLong may be, but have more than 256 bytes.
func tooLong() []Node {
	return []Node{leafOfSize(257), leafOfSize(258), leafOfSize(296), leafOfSize(600), leafOf(rising(37)...), leafOf(rising(43)...), leafOf(rising(63)...),
		leafOf(rising(64)...), leafOf(rising(300)...), forkOfSize(32, 257), forkOfSize(32, 258), forkOfSize(32, 561), forkOfSize(16, 257), forkOfSize(16, 273)}
}

func thatMay() []Node { return append(fitting(), tooLong()...) }

func badCells() []cell.Cell {
	return []cell.Cell{{Key: "m"}, {Key: "m", Val: text(strings.Repeat("x", 21))}, {Key: "m", Val: float(1), New: float(1)}, {Key: "m", Val: float(1), Txn: -1},
		{Key: "m", Val: float(1), Txn: 1<<40 + 1}, {Key: "m", Val: api.Val{Kind: 3}}, {Key: "m", Val: api.Val{Kind: api.VFloat, F: 1, S: "x"}},
		{Key: "m", Val: float(1), Txn: 5, New: api.Val{S: "x"}}, {Key: "m" + strings.Repeat("x", 16), Val: float(1)}}
}

func badKeys() []string {
	return []string{"", strings.Repeat("k", 17), strings.Repeat("値", 6), strings.Repeat("k", 272), strings.Repeat("k", 1<<17)}
}

func badKids() []int {
	return []int{1, 0, -1, -2, -31, 32, 33, 95, 256, 2 + 1<<32, 31 - 1<<32, math.MaxInt, math.MinInt, math.MinInt + 2}
}

func badLeaves() []Node {
	l := []Node{leafOf("b", "a"), leafOf("a", "a"), leafOf("a", "c", "b"), leafOf("b", "a", "c"), leafOf("a", "b", "b"), leafOf("a", "a", "b"),
		leafOf("ab", "a"), leafOf("\x80", "\x7f"), leafOf("a", "B"), leafOf("a", "b", "a"), leafOf("b", "c", "a"),
		leaf(cellOf("a"), cell.Cell{Key: "a", Val: float(2)}), leaf(cellOf("")), leaf(cell.Cell{}), leaf(cell.Cell{}, cellOf("a")),
		{Leaf: true, Keys: []string{"a"}}, {Leaf: true, Kids: []int{2}}, {Leaf: true, Keys: []string{"a"}, Kids: []int{2, 3}}, {Leaf: true, Keys: []string{""}},
		{Leaf: true, Cells: []cell.Cell{cellOf("a")}, Keys: []string{"a"}}, {Leaf: true, Cells: []cell.Cell{cellOf("a")}, Kids: []int{2}},
		{Leaf: true, Cells: []cell.Cell{cellOf("a")}, Keys: []string{"a"}, Kids: []int{2, 3}}, {Leaf: true, Kids: []int{0}}}
	for _, c := range badCells() {
		l = append(l, leaf(c), leaf(c, cellOf("z")), leaf(cellOf("a"), c), leaf(cellOf("a"), c, cellOf("z")))
	}
	return l
}

func badForks() []Node {
	l := []Node{{}, {Cells: []cell.Cell{cellOf("a")}}, {Cells: []cell.Cell{cellOf("a")}, Kids: []int{2}}, {Cells: []cell.Cell{{}}, Kids: []int{2}},
		{Cells: []cell.Cell{cellOf("a")}, Kids: []int{2, 3}, Keys: []string{"m"}},
		{Keys: []string{"a"}}, fork([]int{2}, "a"), fork([]int{2, 3}, "a", "b"), fork([]int{2, 3}), fork([]int{2, 3, 4}, "a"), fork([]int{2, 3, 4}, "a", "b", "c"),
		fork([]int{2, 3, 4}), fork([]int{2}, "a", "b"), fork(pages(33), rising(32)...), fork(pages(33), rising(31)...), fork(pages(32), rising(32)...),
		fork(pages(32), rising(30)...), fork(pages(34), rising(33)...), fork(pages(288), rising(287)...),
		fork([]int{2, 3, 4}, "b", "a"), fork([]int{2, 3, 4}, "a", "a"), fork([]int{2, 3, 4, 5}, "a", "b", "b"), fork([]int{2, 3, 4, 5}, "a", "c", "b"),
		fork([]int{2, 3, 4, 5}, "b", "a", "c"), fork([]int{2, 3, 4, 5}, "b", "c", "a"), fork([]int{2, 3, 4}, "ab", "a"), fork([]int{2, 3, 4}, "\x80", "\x7f")}
	for _, no := range badKids() {
		l = append(l, fork([]int{no}), fork([]int{no, 2}, "m"), fork([]int{2, no}, "m"), fork([]int{2, no, 3}, "f", "m"))
	}
	for _, k := range badKeys() {
		l = append(l, fork([]int{2, 3}, k), fork([]int{2, 3, 4}, k, "m"), fork([]int{2, 3, 4}, "a", k), fork([]int{2, 3, 4, 5}, "a", k, "m"))
	}
	return l
}

// badAndTooLong may not be, and would have more than 256 bytes.
func badAndTooLong() []Node {
	many := rising(60)
	twice := leafOf(many...)
	twice.Cells[59].Key = many[58]
	first := leafOf(many...)
	first.Cells[0] = cell.Cell{}
	last := leafOf(many...)
	last.Cells[59].Txn = -1
	keyed := leafOf(many...)
	keyed.Keys = []string{"a"}
	kid, fall, celled := forkOfSize(32, 561), forkOfSize(32, 561), forkOfSize(32, 561)
	kid.Kids[31] = 1
	fall.Keys[30] = "A"
	celled.Cells = []cell.Cell{cellOf("a")}
	long := forkOfSize(32, 561)
	long.Keys[30] += "x"
	wide := forkOfSize(32, 561)
	wide.Kids = append(wide.Kids, 2)
	more := forkOfSize(32, 561)
	more.Kids, more.Keys = append(more.Kids, 2), append(more.Keys, "z")
	return []Node{twice, first, last, keyed, kid, fall, celled, long, wide, more}
}

func thatMayNot() []Node {
	return slices.Concat(badLeaves(), badForks(), badAndTooLong())
}

func anyNodes() []Node { return append(thatMay(), thatMayNot()...) }

func sameVal(v, w api.Val) bool {
	return v.Kind == w.Kind && math.Float64bits(v.F) == math.Float64bits(w.F) && v.S == w.S
}

func sameCell(c, d cell.Cell) bool {
	return c.Key == d.Key && c.Txn == d.Txn && sameVal(c.Val, d.Val) && sameVal(c.New, d.New)
}

// same holds two nodes against each other, bit by bit.
func same(n, m Node) bool {
	return n.Leaf == m.Leaf && slices.EqualFunc(n.Cells, m.Cells, sameCell) && slices.Equal(n.Keys, m.Keys) && slices.Equal(n.Kids, m.Kids)
}

// told is a node in plain letters, not longer than one can read.
func told(n Node) string { return fmt.Sprintf("%.400q", fmt.Sprintf("%+v", n)) }

// copied shares no memory with n.
func copied(n Node) Node {
	return Node{Leaf: n.Leaf, Cells: slices.Clone(n.Cells), Keys: slices.Clone(n.Keys), Kids: slices.Clone(n.Kids)}
}

func checkMay(t *testing.T, n Node, want bool) {
	t.Helper()
	if got := May(n); got != want {
		t.Errorf("P11.1: May(%s) = %v", told(n), got)
	}
}

func TestMay(t *testing.T) {
	for _, n := range thatMay() {
		checkMay(t, n, true)
	}
	for _, n := range thatMayNot() {
		checkMay(t, n, false)
	}
}

func TestMayOfAnyNumberOfKidsAndKeys(t *testing.T) {
	for kids := range 70 {
		for keys := range 70 {
			checkMay(t, fork(pages(kids), rising(keys)...), kids >= 1 && kids <= 32 && keys == kids-1)
		}
	}
}

func TestMayOfAnyKid(t *testing.T) {
	for no := -300; no <= 300; no++ {
		good := no >= 2 && no <= 31
		checkMay(t, fork([]int{no}), good)
		for at := range 32 {
			kids := pages(32)
			kids[at] = no
			checkMay(t, fork(kids, rising(31)...), good)
		}
	}
}

func TestMayOfKeysByLength(t *testing.T) {
	for length := range 300 {
		for _, letter := range []string{"k", "\x00", "\xff"} {
			k := strings.Repeat(letter, length)
			checkMay(t, fork([]int{2, 3}, k), length >= 1 && length <= 16)
			checkMay(t, leafOf(k), length >= 1 && length <= 16)
		}
	}
}

// Each two neighbours are asked, the first and the last two among them.
func TestMayOfTwoThatStandWrong(t *testing.T) {
	for at := range 30 {
		keys := rising(31)
		keys[at], keys[at+1] = keys[at+1], keys[at]
		checkMay(t, fork(pages(32), keys...), false)
		checkMay(t, leafOf(keys...), false)
		keys[at] = keys[at+1]
		checkMay(t, fork(pages(32), keys...), false)
		checkMay(t, leafOf(keys...), false)
	}
}

func TestMayOfABadCellAnywhere(t *testing.T) {
	for _, bad := range []cell.Cell{{Txn: 5}, {Txn: -1, Val: float(1)}, {}, {Val: text(strings.Repeat("x", 21))}} {
		for at := range 30 {
			n := leafOf(rising(30)...)
			bad.Key = n.Cells[at].Key
			n.Cells[at] = bad
			checkMay(t, n, cell.May(bad))
		}
	}
}

func TestKeysAreOrderedByteByByte(t *testing.T) {
	for a := range 256 {
		for b := range 256 {
			low, high := string([]byte{byte(a)}), string([]byte{byte(b)})
			checkMay(t, leafOf(low, high), a < b)
			checkMay(t, fork([]int{2, 3, 4}, low, high), a < b)
		}
	}
}

// hollow are the nodes that are as n is, but have empty lists of each sort
// where n has none.
func hollow(n Node) []Node {
	l := []Node{n}
	if len(n.Cells) == 0 {
		for _, m := range slices.Clone(l) {
			m.Cells = []cell.Cell{}
			l = append(l, m)
			m.Cells = []cell.Cell{cellOf("q")}[:0]
			l = append(l, m)
		}
	}
	if len(n.Keys) == 0 {
		for _, m := range slices.Clone(l) {
			m.Keys = []string{}
			l = append(l, m)
			m.Keys = []string{"q"}[:0]
			l = append(l, m)
		}
	}
	if len(n.Kids) == 0 {
		for _, m := range slices.Clone(l) {
			m.Kids = []int{}
			l = append(l, m)
			m.Kids = []int{9}[:0]
			l = append(l, m)
		}
	}
	return l
}

func TestNilAndEmptyListsAreTheSame(t *testing.T) {
	for _, n := range []Node{{Leaf: true}, leafOf("a"), fork([]int{2}), fork([]int{2, 3}, "m"), {}, {Leaf: true, Kids: []int{2}}, {Keys: []string{"a"}}} {
		want, wantErr := Encode(n)
		for _, m := range hollow(n) {
			if May(m) != May(n) || Size(m) != Size(n) || Kid(m, "a") != Kid(n, "a") {
				t.Errorf("P0.4: %s: another answer with empty lists", told(n))
			}
			if b, err := Encode(m); string(b) != string(want) || err != wantErr {
				t.Errorf("P0.4: Encode(%s): another answer with empty lists: %x, %d", told(n), b, err)
			}
		}
	}
}

func TestTheZeroNode(t *testing.T) {
	n := Node{}
	checkMay(t, n, false)
	b, err := Encode(n)
	if b != nil || err != api.ErrForm || Size(n) != 0 || Kid(n, "a") != -1 {
		t.Errorf("P11.1: the zero Node: %x, %d, %d, %d", b, err, Size(n), Kid(n, "a"))
	}
}

func checkSize(t *testing.T, n Node, want int) {
	t.Helper()
	if got := Size(n); got != want {
		t.Errorf("P11.1: Size(%s) = %d, want %d", told(n), got, want)
	}
}

func TestSize(t *testing.T) {
	for _, n := range thatMay() {
		checkSize(t, n, len(written(n)))
	}
	for _, n := range thatMayNot() {
		checkSize(t, n, 0)
	}
}

func TestSizesByHand(t *testing.T) {
	checkSize(t, leaf(), 2)
	checkSize(t, leafOf("k"), 8)
	checkSize(t, leaf(cell.Cell{Key: "k", Val: float(1), Txn: 64, New: text("two")}), 2+2+9+2+5)
	checkSize(t, fork([]int{2}), 3)
	checkSize(t, fork([]int{2, 31}, "mn"), 7)
	checkSize(t, fork(pages(32), rising(31)...), 2+32+31*3)
	for size := 8; size <= 600; size++ {
		checkSize(t, leafOfSize(size), size)
	}
	for size := 96; size <= 561; size++ {
		checkSize(t, forkOfSize(32, size), size)
	}
}

// From 64 cells on the number of cells has a byte more, and from 8192 on
// another one.
func TestSizeOfManyCells(t *testing.T) {
	names := make([]string, 100000)
	for i := range names {
		names[i] = fmt.Sprintf("%06d", i)
	}
	for _, x := range []struct{ count, head int }{{63, 2}, {64, 3}, {8191, 3}, {8192, 4}, {100000, 4}} {
		n := leafOf(names[:x.count]...)
		checkMay(t, n, true)
		if got := Size(n); got != x.head+11*x.count {
			t.Errorf("P11.1: Size of %d cells: %d", x.count, got)
		}
		if b, err := Encode(n); b != nil || err != api.ErrFull {
			t.Errorf("P11.1: Encode of %d cells: %d bytes, %d", x.count, len(b), err)
		}
	}
}

func checkKid(t *testing.T, n Node, name string, want int) {
	t.Helper()
	if got := Kid(n, name); got != want {
		t.Errorf("P11.1: Kid(%s, %.40q) = %d, want %d", told(n), name, got, want)
	}
}

func TestKid(t *testing.T) {
	n := fork([]int{9, 4, 7, 4}, "f", "mm", "\x80")
	for _, x := range []struct {
		name string
		want int
	}{
		{"", 0}, {"\x00", 0}, {"a", 0}, {"e\xff", 0}, {"F", 0},
		{"f", 1}, {"f\x00", 1}, {"g", 1}, {"m", 1}, {"ml", 1}, {"m\x00", 1}, {"m" + strings.Repeat("a", 40), 1},
		{"mm", 2}, {"mm\x00", 2}, {"mn", 2}, {"z", 2}, {"\x7f\xff", 2},
		{"\x80", 3}, {"\x80\x00", 3}, {"\xff", 3}, {"値", 3}, {strings.Repeat("\xff", 16), 3}, {strings.Repeat("\xff", 17), 3},
		{strings.Repeat("a", 17), 0}, {strings.Repeat("f", 300), 1}, {strings.Repeat("m", 1<<16), 2}, {strings.Repeat("\x00", 1<<16), 0},
	} {
		checkKid(t, n, x.name, x.want)
	}
}

func TestKidOfOneKid(t *testing.T) {
	for _, name := range []string{"", "a", "\xff", strings.Repeat("k", 17), strings.Repeat("\xff", 300)} {
		checkKid(t, fork([]int{2}), name, 0)
		checkKid(t, fork([]int{31}), name, 0)
		checkKid(t, Node{Cells: []cell.Cell{}, Keys: []string{}, Kids: []int{9}}, name, 0)
	}
}

func TestKidOfManyKids(t *testing.T) {
	keys := rising(31)
	for kids := 1; kids <= 32; kids++ {
		n := fork(pages(kids), keys[:kids-1]...)
		checkKid(t, n, "", 0)
		checkKid(t, n, "\xff", kids-1)
		for i, k := range n.Keys {
			checkKid(t, n, k, i+1)
			checkKid(t, n, k+"\x00", i+1)
			checkKid(t, n, k[:1]+string([]byte{k[1] - 1})+"\xff", i)
		}
	}
}

// A Kid is told also of a node that is too long for a page.
func TestKidOfAnyNode(t *testing.T) {
	names := []string{"", "a", "ab", "m", "z", "\x00", "\xff", strings.Repeat("k", 16), strings.Repeat("k", 17)}
	for _, n := range thatMay() {
		for _, name := range append(names, n.Keys...) {
			want := -1
			if !n.Leaf {
				want = 0
				for _, k := range n.Keys {
					if strings.Compare(k, name) <= 0 {
						want++
					}
				}
			}
			checkKid(t, n, name, want)
		}
	}
	for _, n := range thatMayNot() {
		for _, name := range names {
			checkKid(t, n, name, -1)
		}
	}
}

// roomy has n's lists with spare room behind them that is somebody else's.
func roomy(n Node) Node {
	return Node{
		Leaf:  n.Leaf,
		Cells: append(slices.Clone(n.Cells), cellOf("other"), cellOf("others"))[:len(n.Cells)],
		Keys:  append(slices.Clone(n.Keys), "other", "others")[:len(n.Keys)],
		Kids:  append(slices.Clone(n.Kids), 17, 18)[:len(n.Kids)],
	}
}

// whole has n's lists with their spare room.
func whole(n Node) Node {
	return Node{Leaf: n.Leaf, Cells: n.Cells[:cap(n.Cells)], Keys: n.Keys[:cap(n.Keys)], Kids: n.Kids[:cap(n.Kids)]}
}

func TestArgumentsAreLeftAlone(t *testing.T) {
	for _, n := range anyNodes() {
		arg := roomy(n)
		before := copied(whole(arg))
		May(arg)
		Size(arg)
		Encode(arg)
		Kid(arg, "m")
		if !same(whole(arg), before) || !same(arg, n) {
			t.Errorf("P0.3: %s: an argument or its spare room was written", told(n))
		}
	}
}

func TestAskedAgain(t *testing.T) {
	for _, n := range anyNodes() {
		may, size, kid := May(n), Size(n), Kid(n, "m")
		b, err := Encode(n)
		for _, other := range []Node{leafOf("a", "b"), fork([]int{2, 3}, "m"), {}} {
			Encode(other)
			Size(other)
			Kid(other, "z")
		}
		again, e := Encode(copied(n))
		if May(n) != may || Size(n) != size || Kid(n, "m") != kid || string(again) != string(b) || e != err {
			t.Errorf("P0.5: %s: one call, two answers", told(n))
		}
	}
}
