package vers

import (
	"fmt"
	"math"
	"slices"
	"strings"
	"testing"

	"engross/alloc"
	"engross/api"
	"engross/cell"
	"engross/sheet"
	"engross/tree"
)

// name16 is a key of 16 bytes; those of rising numbers rise, and begin alike.
func name16(i int) string { return fmt.Sprintf("%016d", i) }

// someTxns are transactions, the least and the greatest among them.
func someTxns() []int64 { return []int64{1, 2, 5, 63, 64, 1<<40 - 1, 1 << 40} }

// badTxns are none.
func badTxns() []int64 {
	return []int64{0, -1, -5, 1<<40 + 1, 1 << 41, -1 << 40, math.MinInt64, math.MaxInt64}
}

// badVals are values that may not be.
func badVals() []api.Val {
	return []api.Val{
		{Kind: 3}, {Kind: -1}, {Kind: 1 << 32}, {Kind: math.MinInt64}, {F: 1}, {F: math.Copysign(0, -1)}, {S: "x"},
		{Kind: api.VFloat, S: "x"}, {Kind: api.VFloat, F: math.Float64frombits(math.Float64bits(math.NaN()) ^ 1<<63)},
		{Kind: api.VText, F: 1}, {Kind: api.VText, S: strings.Repeat("x", 21)}, {Kind: api.VText, S: strings.Repeat("x", 1<<16)},
	}
}

// badKeys are keys that may not be.
func badKeys() []string {
	return []string{"", strings.Repeat("k", 17), strings.Repeat("\x00", 17), strings.Repeat("k", 1<<16)}
}

// variety is a tree with a cell of each sort that may be, and its model.
func variety(t *testing.T) (*sheet.Sheet, *plain) {
	t.Helper()
	m := fresh()
	var cells []cell.Cell
	vals := []api.Val{none(), number(1), text("two")}
	for i, v := range vals {
		for j, w := range vals {
			for n, txn := range []int64{0, 1, 5, 1 << 40} {
				c := cell.Cell{Key: fmt.Sprint("k", i, j, n), Val: v, Txn: txn, New: w}
				if !cell.May(c) {
					continue
				}
				cells = append(cells, c)
				if v.Kind != api.VNone {
					m.all[c.Key] = v
				}
				if txn > 0 {
					m.own[c.Key] = written{txn, w}
				}
			}
		}
	}
	return laid(t, cells), m
}

// fiveCells are what the transactions 7 and 8 have written, and one that they
// have not.
func fiveCells() []cell.Cell {
	return []cell.Cell{
		{Key: "a", Val: text("1")},
		{Key: "b", Val: text("2"), Txn: 7, New: text("3")},
		{Key: "c", Txn: 7, New: number(4)},
		{Key: "d", Val: text("5"), Txn: 7},
		{Key: "e", Txn: 8, New: text("6")},
	}
}

// laid is a tree of these cells.
func laid(t *testing.T, cells []cell.Cell) *sheet.Sheet {
	t.Helper()
	s := sheet.New(noughts())
	for _, c := range cells {
		if err := tree.Put(s, c); err != api.OK {
			t.Fatalf("Put(%v) = %d", c, err)
		}
	}
	return s
}

func TestSeeAndRangeOfEachSortOfCell(t *testing.T) {
	s, m := variety(t)
	whole(t, "each sort", s, m)
	for _, txn := range append(badTxns(), 2, 4, 6, 1<<40-1) {
		for _, k := range m.keys() {
			if v, err := See(s, txn, k); !same(v, m.all[k]) || err != api.OK {
				t.Errorf("P15.1: See(%d, %q) = %v, %d, want what all see, %v", txn, k, v, err, m.all[k])
			}
		}
		ranges(t, "each sort", s, m, txn, "", "")
	}
}

func TestKnownSeeAndRange(t *testing.T) {
	s := laid(t, append(fiveCells(), cell.Cell{Key: "f", Txn: 8}))
	for _, x := range []struct {
		txn      int64
		from, to string
		want     string
	}{
		{0, "", "", "[{a {2 0 1}} {b {2 0 2}} {d {2 0 5}}]"},
		{6, "", "", "[{a {2 0 1}} {b {2 0 2}} {d {2 0 5}}]"},
		{-7, "", "", "[{a {2 0 1}} {b {2 0 2}} {d {2 0 5}}]"},
		{7, "", "", "[{a {2 0 1}} {b {2 0 3}} {c {1 4 }}]"},
		{8, "", "", "[{a {2 0 1}} {b {2 0 2}} {d {2 0 5}} {e {2 0 6}}]"},
		{7, "b", "c", "[{b {2 0 3}}]"},
		{7, "b", "c\x00", "[{b {2 0 3}} {c {1 4 }}]"},
		{7, "a\x00", "", "[{b {2 0 3}} {c {1 4 }}]"},
		{7, "d", "", "[]"},
		{0, "d", "", "[{d {2 0 5}}]"},
		{7, "c", "b", "[]"},
		{7, "c", "c", "[]"},
		{8, "e", "", "[{e {2 0 6}}]"},
	} {
		if l, err := Range(s, x.txn, x.from, x.to); fmt.Sprint(l) != x.want || err != api.OK {
			t.Errorf("P15.1: Range(%d, %q, %q) = %v, %d, want %s", x.txn, x.from, x.to, l, err, x.want)
		}
	}
	for _, x := range []struct {
		txn  int64
		k    string
		want api.Val
	}{
		{0, "b", text("2")}, {7, "b", text("3")}, {8, "b", text("2")}, {0, "c", none()}, {7, "c", number(4)}, {8, "c", none()},
		{0, "d", text("5")}, {7, "d", none()}, {8, "f", none()}, {0, "f", none()}, {7, "a", text("1")}, {7, "g", none()},
	} {
		if v, err := See(s, x.txn, x.k); !same(v, x.want) || err != api.OK {
			t.Errorf("P15.1: See(%d, %q) = %v, %d, want %v", x.txn, x.k, v, err, x.want)
		}
	}
}

func TestRangeOfEachSpan(t *testing.T) {
	r := seeded(1)
	s, m := sheet.New(noughts()), fresh()
	for i := range 60 {
		k := fmt.Sprintf("%02d", 2*i%80)
		writes(t, "spans", s, m, int64(1+r.below(3)), k, r.val())
		if i == 40 {
			ends()[0].does(t, "spans", s, m, 1)
			ends()[0].does(t, "spans", s, m, 2)
		}
	}
	names := []string{"", "\x00", "\xff", strings.Repeat("4", 17)}
	for i := range 41 {
		names = append(names, fmt.Sprintf("%02d", 2*i), fmt.Sprintf("%02d", 2*i+1))
	}
	for _, from := range names {
		for _, to := range names {
			for txn := range int64(4) {
				ranges(t, "spans", s, m, txn, from, to)
			}
		}
	}
}

// Keys that may not be are no cell's: nothing is seen of them, and that is no
// error.
func TestKeysThatMayNotBe(t *testing.T) {
	s, m := variety(t)
	for _, k := range badKeys() {
		for txn := range int64(6) {
			sees(t, "keys", s, m, txn, k)
			ranges(t, "keys", s, m, txn, k, "")
			ranges(t, "keys", s, m, txn, "", k)
		}
	}
}

func TestWriteOfWhatMayNotBe(t *testing.T) {
	s, _ := variety(t)
	if err := Write(s, 9, "k", text("x")); err != api.OK {
		t.Fatalf("P15.1: Write = %d", err)
	}
	torn := sheet.New(s)
	torn.Set(1, slices.Repeat([]byte{0xff}, 256))
	for _, s := range []*sheet.Sheet{sheet.New(noughts()), s, torn, sheet.New(nil), nil} {
		was := stateOf(s)
		refused := func(txn int64, k string, v api.Val) {
			t.Helper()
			if err := Write(s, txn, k, v); err != api.ErrForm {
				t.Errorf("P15.1: Write(%d, %.20q, %.60v) = %d, want ErrForm", txn, k, v, err)
			}
		}
		for _, txn := range badTxns() {
			for _, v := range []api.Val{none(), text("x"), number(1)} {
				refused(txn, "k", v)
				refused(txn, "new", v)
			}
		}
		for _, k := range badKeys() {
			refused(9, k, none())
			refused(9, k, text("x"))
		}
		for _, v := range badVals() {
			refused(9, "k", v)
			refused(8, "k", v)
			refused(9, "new", v)
			refused(0, "", v)
		}
		stays(t, "P15.1: ErrForm", s, was)
	}
}

func TestWriteOfEachValue(t *testing.T) {
	one := func(txn int64, k string, ahead, v api.Val) {
		t.Helper()
		s, m := sheet.New(noughts()), fresh()
		what := fmt.Sprintf("%v, then %v", ahead, v)
		writes(t, what, s, m, 3, k, ahead)
		ends()[0].does(t, what, s, m, 3)
		if !writes(t, what, s, m, txn, k, v) {
			t.Fatalf("%s: P15.1: it can't be written", what)
		}
		right(t, what, s, m)
		for _, x := range []int64{0, txn, 3, txn - 1, txn + 1, -txn} {
			sees(t, what, s, m, x, k)
			ranges(t, what, s, m, x, "", "")
		}
	}
	for _, v := range values() {
		for _, ahead := range values() {
			one(5, "k", ahead, v)
		}
	}
	for _, txn := range someTxns() {
		for _, k := range []string{"\x00", "k", "\xff", strings.Repeat("k", 16), strings.Repeat("\xff", 16)} {
			for _, v := range []api.Val{none(), text("x")} {
				one(txn, k, v, none())
				one(txn, k, v, number(1))
			}
		}
	}
}

// What a transaction writes over its own.
func TestWriteAgain(t *testing.T) {
	for _, all := range []api.Val{none(), text("all")} {
		for _, first := range values() {
			for _, then := range values() {
				s, m := sheet.New(noughts()), fresh()
				writes(t, "all", s, m, 3, "k", all)
				ends()[0].does(t, "all", s, m, 3)
				for _, v := range []api.Val{first, then, first} {
					if !writes(t, "again", s, m, 5, "k", v) {
						t.Fatalf("P15.1: Write(%v) again", v)
					}
					whole(t, "again", s, m)
				}
			}
		}
	}
}

// Of a key of which nobody sees anything there is no cell.
func TestNothingIsLaidForNothing(t *testing.T) {
	s, m := variety(t)
	for _, txn := range someTxns() {
		for _, k := range []string{"a", "k", "k0", "k000", "z", strings.Repeat("\xff", 16)} {
			was := stateOf(s)
			writes(t, "none", s, m, txn, k, none())
			stays(t, "P15.1: nothing is written where there is none", s, was)
			writes(t, "one", s, m, txn, k, text("x"))
			whole(t, "one", s, m)
			writes(t, "it goes", s, m, txn, k, none())
			whole(t, "it goes", s, m)
			// It is nobody's any more.
			if !writes(t, "another", s, m, 77, k, text("y")) || !writes(t, "another", s, m, 77, k, none()) {
				t.Errorf("P15.1: %q can't be written", k)
			}
			whole(t, "it goes", s, m)
		}
	}
	// With the last one its page goes.
	s = sheet.New(noughts())
	for _, err := range []api.Errno{Write(s, 5, "k", text("x")), Write(s, 5, "k", none())} {
		if err != api.OK {
			t.Errorf("P15.1: Write = %d", err)
		}
	}
	if n := used(t, s); n != 0 {
		t.Errorf("P15.1: nothing has %d pages", n)
	}
	// Where all see something the cell stays, and what all see.
	m = fresh()
	writes(t, "all", s, m, 5, "k", text("x"))
	ends()[0].does(t, "all", s, m, 5)
	writes(t, "all", s, m, 5, "k", none())
	whole(t, "all", s, m)
	if c, has, _ := tree.Get(s, "k"); !has || !sameCell(c, cell.Cell{Key: "k", Val: text("x"), Txn: 5}) {
		t.Errorf("P15.1: the cell is %v", c)
	}
}

func TestWriteOfWhatIsBusy(t *testing.T) {
	for _, all := range []api.Val{none(), text("all"), number(1)} {
		for _, v := range values() {
			if all.Kind == api.VNone && v.Kind == api.VNone {
				continue
			}
			for _, e := range ends() {
				s, m := sheet.New(noughts()), fresh()
				writes(t, "all", s, m, 3, "k", all)
				ends()[0].does(t, "all", s, m, 3)
				writes(t, "first", s, m, 5, "k", v)
				for _, txn := range []int64{1, 4, 6, 1 << 40} {
					for _, w := range append(values(), all, v) {
						if Write(s, txn, "k", w) != api.ErrBusy {
							t.Fatalf("P15.1: Write(%d) of what 5 has written", txn)
						}
					}
				}
				whole(t, "busy", s, m)
				// Beside it nothing is, and behind the end it is free too.
				writes(t, "beside", s, m, 4, "j", v)
				writes(t, "beside", s, m, 4, "k\x00", v)
				e.does(t, e.name, s, m, 5)
				if !writes(t, e.name, s, m, 6, "k", text("next")) {
					t.Fatalf("P15.1: behind %s it is busy", e.name)
				}
				whole(t, e.name, s, m)
			}
		}
	}
}

func TestEndsOfEachSortOfCell(t *testing.T) {
	for _, e := range ends() {
		for _, txn := range []int64{1, 2, 4, 5, 6, 1<<40 - 1, 1 << 40} {
			s, m := variety(t)
			e.does(t, "each sort", s, m, txn)
			whole(t, e.name, s, m)
			// A second time there is nothing left to end.
			if n, err := e.call(s, txn); n != 0 || err != api.OK {
				t.Errorf("P15.2: %s(%d) again = %d, %d", e.name, txn, n, err)
			}
			for _, next := range ends() {
				for _, other := range []int64{1, 5, 1 << 40} {
					next.does(t, e.name+", "+next.name, s, m, other)
					whole(t, e.name+", "+next.name, s, m)
				}
			}
		}
	}
}

func TestKnownEnds(t *testing.T) {
	cells := append(fiveCells(), cell.Cell{Key: "f", Txn: 7})
	for _, x := range []struct {
		call func(s *sheet.Sheet) (int, api.Errno)
		n    int
		want string
	}{
		{func(s *sheet.Sheet) (int, api.Errno) { return Commit(s, 7) }, 4, "[{a {2 0 1} 0 {0 0 }} {b {2 0 3} 0 {0 0 }} {c {1 4 } 0 {0 0 }} {e {0 0 } 8 {2 0 6}}]"},
		{func(s *sheet.Sheet) (int, api.Errno) { return Undo(s, 7) }, 4, "[{a {2 0 1} 0 {0 0 }} {b {2 0 2} 0 {0 0 }} {d {2 0 5} 0 {0 0 }} {e {0 0 } 8 {2 0 6}}]"},
		{func(s *sheet.Sheet) (int, api.Errno) { return Commit(s, 8) }, 1, "[{a {2 0 1} 0 {0 0 }} {b {2 0 2} 7 {2 0 3}} {c {0 0 } 7 {1 4 }} {d {2 0 5} 7 {0 0 }} {e {2 0 6} 0 {0 0 }} {f {0 0 } 7 {0 0 }}]"},
		{func(s *sheet.Sheet) (int, api.Errno) { return Undo(s, 8) }, 1, "[{a {2 0 1} 0 {0 0 }} {b {2 0 2} 7 {2 0 3}} {c {0 0 } 7 {1 4 }} {d {2 0 5} 7 {0 0 }} {f {0 0 } 7 {0 0 }}]"},
		{Clean, 5, "[{a {2 0 1} 0 {0 0 }} {b {2 0 2} 0 {0 0 }} {d {2 0 5} 0 {0 0 }}]"},
	} {
		s := laid(t, cells)
		n, err := x.call(s)
		if l, _ := tree.Scan(s, "", ""); fmt.Sprint(l) != x.want || n != x.n || err != api.OK {
			t.Errorf("P15.2: %d, %d, %v, want %d, %s", n, err, l, x.n, x.want)
		}
	}
}

func TestEndsOfATransactionThatIsNone(t *testing.T) {
	s, _ := variety(t)
	for _, s := range []*sheet.Sheet{s, sheet.New(noughts()), sheet.New(nil), nil} {
		was := stateOf(s)
		for _, txn := range badTxns() {
			for _, e := range ends()[:2] {
				if n, err := e.call(s, txn); n != 0 || err != api.ErrForm {
					t.Errorf("P15.2: %s(%d) = %d, %d, want ErrForm", e.name, txn, n, err)
				}
			}
		}
		stays(t, "P15.2: ErrForm", s, was)
	}
}

func TestEndsOfTheEmptyTree(t *testing.T) {
	for _, e := range ends() {
		for _, txn := range someTxns() {
			s := sheet.New(noughts())
			e.does(t, "empty", s, fresh(), txn)
			whole(t, "empty", s, fresh())
		}
	}
}

// crowded is a tree all whose thirty pages are in use, with the longest cells,
// each third of another transaction.
func crowded(t *testing.T) (*ground, *plain) {
	t.Helper()
	s, m := sheet.New(noughts()), fresh()
	for i := 0; ; i++ {
		k := name16(i * 7919 % 100003)
		if !writes(t, "crowding", s, m, 1, k, text(strings.Repeat("v", 20))) {
			break
		}
		ends()[0].does(t, "crowding", s, m, 1)
		if !writes(t, "crowding", s, m, 1<<40-int64(i%3), k, text(strings.Repeat("w", 20))) {
			break
		}
	}
	whole(t, "crowded", s, m)
	if n := used(t, s); n != 30 {
		t.Fatalf("a full tree has %d pages", n)
	}
	return copied(s), m
}

func TestAFullTree(t *testing.T) {
	g, full := crowded(t)
	s, m := sheet.New(g), full.copied()
	refused := 0
	for i := range 60 {
		k := name16(i*7919 + 1)
		if !writes(t, "full", s, m, int64(1+i%5), k, text(strings.Repeat("x", 20))) {
			refused++
		}
		// That nothing is there needs no room.
		writes(t, "full", s, m, int64(1+i%5), k[1:], none())
	}
	if refused < 30 {
		t.Errorf("P15.1: a full tree refused %d of 60", refused)
	}
	whole(t, "full", s, m)
	// ErrBusy goes ahead of ErrFull.
	for _, k := range m.keys() {
		if err := Write(s, 9, k, text(strings.Repeat("x", 20))); m.busy(9, k) && err != api.ErrBusy {
			t.Errorf("P15.1: Write of what is busy = %d", err)
		}
	}
	// Who wrote a key has the room for it.
	for _, v := range values() {
		s, m := sheet.New(g), full.copied()
		for k, w := range full.own {
			if !writes(t, "own", s, m, w.txn, k, v) {
				t.Fatalf("P15.1: Write of one's own: %v", v)
			}
		}
		whole(t, "own", s, m)
	}
}

// A longer cell that does not fit is refused, and the elder one stays.
func TestAFullTreeOfShorterCells(t *testing.T) {
	s, m := sheet.New(noughts()), fresh()
	r := seeded(2)
	for i := 0; writes(t, "filling", s, m, 1, name16(i*7919%100003), text(r.word(r.below(21)))); i++ {
	}
	ends()[0].does(t, "filling", s, m, 1)
	refused := 0
	for i, k := range m.keys() {
		if !writes(t, "longer", s, m, 1<<40-int64(i%3), k, text(strings.Repeat("w", 20))) {
			refused++
		}
	}
	whole(t, "longer", s, m)
	if refused == 0 || refused == len(m.keys()) {
		t.Errorf("P15.1: of %d cells in a full tree %d were refused", len(m.keys()), refused)
	}
	for _, e := range ends() {
		e.does(t, "longer", s, m, 1<<40)
		right(t, "longer", s, m)
	}
}

// Commit, Undo and Clean need no page: also where all are in use, by the tree
// or by others.
func TestEndsNeedNoPage(t *testing.T) {
	full, cells := crowded(t)
	orders := [][]int64{{1 << 40, 1<<40 - 1, 1<<40 - 2}, {1<<40 - 2, 1 << 40, 1<<40 - 1}}
	for _, gone := range []bool{false, true} {
		for _, e := range ends() {
			for _, order := range orders {
				s, m := sheet.New(full), cells.copied()
				for k, w := range cells.own {
					if gone && k > name16(5000) {
						writes(t, "gone", s, m, w.txn, k, none())
					}
				}
				for _, txn := range order {
					e.does(t, "full", s, m, txn)
					whole(t, e.name, s, m)
				}
			}
		}
	}
	for _, e := range ends() {
		s, m := variety(t)
		for err := api.OK; err == api.OK; {
			_, err = alloc.Take(s)
		}
		for _, txn := range []int64{5, 1 << 40, 1} {
			e.does(t, "others have all pages", s, m, txn)
			holds(t, "others have all pages", s, m)
		}
	}
}

// What leaves no cell gives its pages back.
func TestEndsGivePagesBack(t *testing.T) {
	fill := func(all bool) (*sheet.Sheet, *plain) {
		s, m := sheet.New(noughts()), fresh()
		for i := range 80 {
			writes(t, "fill", s, m, 5, name16(i), text("0123456789"))
		}
		if all {
			ends()[0].does(t, "fill", s, m, 5)
			for i := range 80 {
				writes(t, "fill", s, m, 6, name16(i), none())
			}
		}
		return s, m
	}
	for _, e := range ends() {
		s, m := fill(e.name == "Commit")
		txn := int64(5)
		if e.name == "Commit" {
			txn = 6
		}
		if n := used(t, s); n < 5 {
			t.Fatalf("80 cells have %d pages", n)
		}
		e.does(t, e.name, s, m, txn)
		whole(t, e.name, s, m)
		if n := used(t, s); n != 0 {
			t.Errorf("P15.2: behind %s nothing has %d pages", e.name, n)
		}
	}
}

// walk does steps at random, of which so many per cent write, and asks all
// behind each. It answers how often there was no room.
func walk(t *testing.T, what string, r *source, s *sheet.Sheet, m *plain, steps, writings int, key func() string, val func() api.Val) (full int) {
	t.Helper()
	txns := someTxns()[:3+r.below(4)]
	for n := range steps {
		txn, k := txns[r.below(len(txns))], key()
		if r.below(100) < writings {
			busy := m.busy(txn, k)
			if !writes(t, what, s, m, txn, k, val()) && !busy {
				full++
			}
		} else {
			e := ends()[[]int{0, 0, 0, 0, 0, 1, 1, 1, 1, 2}[r.below(10)]]
			e.does(t, what, s, m, txn)
		}
		right(t, what, s, m)
		for _, x := range append(txns, 0) {
			sees(t, what, s, m, x, k)
		}
		ranges(t, what, s, m, txn, key(), key())
		if n%40 == 39 {
			whole(t, what, s, m)
		}
	}
	ends()[2].does(t, what, s, m, 0)
	whole(t, what, s, m)
	return full
}

func TestWalks(t *testing.T) {
	for seed := range 9 {
		r := seeded(seed)
		keys := map[int]func() string{
			0: func() string { return r.word(1) },
			1: func() string { return strings.Repeat("ab", 8)[:1+r.below(16)] },
			2: func() string { return name16(r.below(40)) },
		}
		walk(t, fmt.Sprint("walk ", seed), r, sheet.New(noughts()), fresh(), 250, 75+seed, keys[seed%3], r.val)
	}
}

func TestWalksFromAFullTree(t *testing.T) {
	for seed := range 2 {
		r := seeded(seed + 20)
		s, m := sheet.New(noughts()), fresh()
		for i := 0; writes(t, "filling", s, m, 1, name16(i*7919%307), text(r.word(20))); i++ {
		}
		ends()[0].does(t, "filling", s, m, 1)
		val := func() api.Val {
			if r.below(4) == 0 {
				return none()
			}
			return text(r.word(r.below(21)))
		}
		if walk(t, fmt.Sprint("full walk ", seed), r, s, m, 400, 92, func() string { return name16(r.below(307)) }, val) == 0 {
			t.Errorf("the walk %d was never full", seed)
		}
	}
}
