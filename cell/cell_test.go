package cell

import (
	"fmt"
	"math"
	"strings"
	"testing"

	"engross/api"
)

const (
	plusInf = uint64(0x7ff0000000000000)
	oneNaN  = uint64(0x7ff8000000000000)
	signBit = uint64(1) << 63
)

func bitsOf(f float64) uint64 { return math.Float64bits(f) }

func of(bits uint64) float64 { return math.Float64frombits(bits) }

func float(f float64) api.Val { return api.Val{Kind: api.VFloat, F: f} }

func text(s string) api.Val { return api.Val{Kind: api.VText, S: s} }

func none() api.Val { return api.Val{} }

// goodKeys may be, both ends of the lengths among them.
func goodKeys() []string {
	return []string{"a", "b", "\x00", "\xff", "ab", "key", "値", "\x80\x00\xfe", strings.Repeat("k", 15), strings.Repeat("k", 16),
		strings.Repeat("\x00", 16), strings.Repeat("\xff", 16)}
}

func badKeys() []string {
	return []string{"", strings.Repeat("k", 17), strings.Repeat("\x00", 17), strings.Repeat("値", 6), strings.Repeat("k", 32),
		strings.Repeat("k", 63), strings.Repeat("k", 64), strings.Repeat("k", 256), strings.Repeat("k", 272), strings.Repeat("k", 1<<16)}
}

// goodVals may be and are something, no two of them the same.
func goodVals() []api.Val {
	return []api.Val{float(0), float(of(signBit)), float(1), float(-1), float(0.1), float(math.MaxFloat64), float(-math.SmallestNonzeroFloat64),
		float(of(plusInf)), float(of(plusInf | signBit)), float(of(oneNaN)),
		text(""), text("two"), text("\x00"), text("\xff\x80"), text(strings.Repeat("x", 19)), text(strings.Repeat("x", 20))}
}

// badVals may not be, some of none among them.
func badVals() []api.Val {
	return []api.Val{{S: "x"}, {F: 1}, {F: of(signBit)}, {F: of(oneNaN)}, {F: 1, S: "x"},
		{Kind: api.VFloat, S: "x"}, float(of(oneNaN | 1)), float(of(oneNaN | signBit)), float(of(plusInf | 1)),
		{Kind: api.VText, F: 1}, {Kind: api.VText, F: of(signBit), S: "x"}, text(strings.Repeat("x", 21)), text(strings.Repeat("x", 1<<16)),
		{Kind: 3}, {Kind: 9}, {Kind: -1}, {Kind: 256}, {Kind: 1 << 32}, {Kind: math.MaxInt}, {Kind: math.MinInt}}
}

func goodTxns() []int64 { return []int64{1, 2, 5, 63, 64, 1 << 32, 1<<40 - 1, 1 << 40} }

// badTxns are those of no cell, though some of them are above 0.
func badTxns() []int64 {
	return []int64{-1, -2, -5, -1 << 32, -1 << 40, math.MinInt64, math.MinInt64 + 1, 1<<40 + 1, 1 << 41, 1<<63 - 2, math.MaxInt64}
}

// thatMay are cells that may be, no two of them the same.
func thatMay() []Cell {
	l := []Cell{}
	for _, k := range goodKeys() {
		l = append(l, Cell{Key: k, Val: float(1)}, Cell{Key: k, Val: float(1), Txn: 5, New: text("two")})
	}
	something := goodVals()
	for i, v := range something {
		w := something[(i+7)%len(something)]
		l = append(l, Cell{Key: "k", Val: v}, Cell{Key: "k", Val: v, Txn: 7}, Cell{Key: "k", Txn: 7, New: v},
			Cell{Key: "k", Val: v, Txn: 7, New: v}, Cell{Key: "k", Val: v, Txn: 7, New: w})
	}
	for _, x := range goodTxns() {
		l = append(l, Cell{Key: "t", Txn: x}, Cell{Key: "t", Val: text("two"), Txn: x}, Cell{Key: "t", Txn: x, New: text("two")},
			Cell{Key: "t", Val: float(3), Txn: x, New: text("two")})
	}
	return l
}

// thatMayNot break one rule each, or more.
func thatMayNot() []Cell {
	l := []Cell{{Key: "a"}, {Key: "a", Val: float(1), New: float(1)}, {Key: "a", Val: float(1), New: text("")}}
	for _, k := range badKeys() {
		l = append(l, Cell{Key: k, Val: float(1)}, Cell{Key: k, Val: float(1), Txn: 5, New: text("two")}, Cell{Key: k, Txn: 1})
	}
	for _, v := range badVals() {
		l = append(l, Cell{Key: "a", Val: v, Txn: 5, New: float(2)}, Cell{Key: "a", Val: float(2), Txn: 5, New: v},
			Cell{Key: "a", Val: v, Txn: 5}, Cell{Key: "a", Txn: 5, New: v}, Cell{Key: "a", Val: v}, Cell{Key: "a", Val: float(2), New: v})
	}
	for _, x := range badTxns() {
		l = append(l, Cell{Key: "a", Val: float(1), Txn: x}, Cell{Key: "a", Val: float(1), Txn: x, New: text("two")}, Cell{Key: "a", Txn: x, New: text("two")},
			Cell{Key: "a", Txn: x})
	}
	return append(l, Cell{}, Cell{New: text("two")}, Cell{Txn: -1}, Cell{Val: api.Val{Kind: 9}, Txn: 1 << 41, New: api.Val{S: "x"}})
}

func anyCells() []Cell { return append(thatMay(), thatMayNot()...) }

func anyVals() []api.Val { return append(append(goodVals(), badVals()...), none()) }

func anyTxns() []int64 { return append(append(goodTxns(), badTxns()...), 0) }

func sameVal(v, w api.Val) bool {
	return v.Kind == w.Kind && bitsOf(v.F) == bitsOf(w.F) && v.S == w.S
}

// same holds two cells against each other, bit by bit.
func same(c, d Cell) bool {
	return c.Key == d.Key && c.Txn == d.Txn && sameVal(c.Val, d.Val) && sameVal(c.New, d.New)
}

func toldVal(v api.Val) string {
	return fmt.Sprintf("{%d %x %.30q}", v.Kind, bitsOf(v.F), v.S)
}

// told is a cell in plain letters, whatever its bytes.
func told(c Cell) string {
	return fmt.Sprintf("{%.30q %s %d %s}", c.Key, toldVal(c.Val), c.Txn, toldVal(c.New))
}

func checkMay(t *testing.T, c Cell, want bool) {
	t.Helper()
	if got := May(c); got != want {
		t.Errorf("P10.1: May(%s) = %v", told(c), got)
	}
}

func TestMay(t *testing.T) {
	for _, c := range thatMay() {
		checkMay(t, c, true)
	}
	for _, c := range thatMayNot() {
		checkMay(t, c, false)
	}
}

func TestMayOfKeysByLength(t *testing.T) {
	for n := range 300 {
		for _, letter := range []string{"k", "\x00", "\xff"} {
			k := strings.Repeat(letter, n)
			checkMay(t, Cell{Key: k, Val: float(1)}, n >= 1 && n <= 16)
			checkMay(t, Cell{Key: k, Txn: 1}, n >= 1 && n <= 16)
		}
	}
}

func TestMayOfTextsByLength(t *testing.T) {
	for n := range 300 {
		v := text(strings.Repeat("x", n))
		checkMay(t, Cell{Key: "a", Val: v}, n <= 20)
		checkMay(t, Cell{Key: "a", Val: v, Txn: 1}, n <= 20)
		checkMay(t, Cell{Key: "a", Txn: 1, New: v}, n <= 20)
		checkMay(t, Cell{Key: "a", Val: float(1), Txn: 1, New: v}, n <= 20)
	}
}

// The rule of the Txn is gone through with values of each kind, and with none.
func TestMayOfEveryTxn(t *testing.T) {
	vals := []api.Val{none(), float(0), float(2), text(""), text("two")}
	for _, v := range vals {
		for _, w := range vals {
			checkMay(t, Cell{Key: "a", Val: v, New: w}, v != none() && w == none())
			for _, txn := range goodTxns() {
				checkMay(t, Cell{Key: "a", Val: v, Txn: txn, New: w}, true)
			}
			for _, txn := range badTxns() {
				checkMay(t, Cell{Key: "a", Val: v, Txn: txn, New: w}, false)
			}
		}
	}
}

func TestSee(t *testing.T) {
	one, two := float(1), text("two")
	clean, both := Cell{Key: "a", Val: one}, Cell{Key: "a", Val: one, Txn: 5, New: two}
	gone, laid := Cell{Key: "a", Val: one, Txn: 5}, Cell{Key: "a", Txn: 5, New: two}
	odd, under := Cell{Key: "a", Val: one, New: two}, Cell{Key: "a", Val: one, Txn: -5, New: two}
	above, last := Cell{Key: "a", Val: one, Txn: 1<<40 + 1, New: two}, Cell{Key: "a", Val: one, Txn: 1 << 40, New: two}
	for _, x := range []struct {
		c    Cell
		txn  int64
		want api.Val
	}{
		{clean, 0, one}, {clean, 5, one}, {clean, -1, one},
		{both, 5, two}, {both, 0, one}, {both, 4, one}, {both, 6, one}, {both, -5, one}, {both, 5 + 1<<32, one},
		{gone, 5, none()}, {gone, 0, one}, {gone, 6, one},
		{laid, 5, two}, {laid, 0, none()}, {laid, 6, none()}, {laid, -5, none()},
		{odd, 0, one}, {odd, 5, one}, {under, -5, one}, {under, 5, one}, {under, 0, one},
		{above, 1<<40 + 1, two}, {above, 1 << 40, one}, {last, 1 << 40, two}, {last, 1<<40 + 1, one},
		{Cell{}, 0, none()}, {Cell{New: two}, 0, none()}, {Cell{Txn: 1, New: two}, 1, two},
	} {
		if got := See(x.c, x.txn); !sameVal(got, x.want) {
			t.Errorf("P10.1: See(%s, %d) = %s, want %s", told(x.c), x.txn, toldVal(got), toldVal(x.want))
		}
	}
}

func TestSeeOfAnyCellByAnyTxn(t *testing.T) {
	for _, c := range anyCells() {
		for _, txn := range append(anyTxns(), c.Txn) {
			want := c.Val
			if txn == c.Txn && txn > 0 {
				want = c.New
			}
			if got := See(c, txn); !sameVal(got, want) {
				t.Errorf("P10.1: See(%s, %d) = %s, want %s", told(c), txn, toldVal(got), toldVal(want))
			}
		}
	}
}

func TestWrite(t *testing.T) {
	for _, c := range anyCells() {
		for _, txn := range anyTxns() {
			for _, v := range anyVals() {
				want := Cell{Key: c.Key, Val: c.Val, Txn: txn, New: v}
				if got := Write(c, txn, v); !same(got, want) {
					t.Errorf("P10.1: Write(%s, %d, %s) = %s", told(c), txn, toldVal(v), told(got))
				}
			}
		}
	}
}

func TestWriteIsSeenByItsTxnAlone(t *testing.T) {
	for _, c := range thatMay() {
		for _, v := range append(goodVals(), none()) {
			w := Write(c, 9, v)
			if !May(w) || !sameVal(See(w, 9), v) || !sameVal(See(w, 8), c.Val) || !sameVal(See(w, 0), c.Val) {
				t.Errorf("P10.1: Write(%s, 9, %s) = %s", told(c), toldVal(v), told(w))
			}
		}
	}
}

// kept is what Commit and Undo tell of a cell of which all see v.
func kept(name string, v api.Val) (Cell, bool) {
	if v.Kind == api.VNone {
		return Cell{}, false
	}
	return Cell{Key: name, Val: v}, true
}

func checkCommit(t *testing.T, c, want Cell, left bool) {
	t.Helper()
	if got, ok := Commit(c); !same(got, want) || ok != left {
		t.Errorf("P10.1: Commit(%s) = %s, %v, want %s, %v", told(c), told(got), ok, told(want), left)
	}
}

func checkUndo(t *testing.T, c, want Cell, left bool) {
	t.Helper()
	if got, ok := Undo(c); !same(got, want) || ok != left {
		t.Errorf("P10.1: Undo(%s) = %s, %v, want %s, %v", told(c), told(got), ok, told(want), left)
	}
}

func TestCommitAndUndo(t *testing.T) {
	one, two := float(1), text("two")
	first, second := Cell{Key: "a", Val: one}, Cell{Key: "a", Val: two}
	for _, x := range []struct {
		c            Cell
		commit, undo Cell
	}{
		{first, first, first},
		{Cell{Key: "a", Val: one, Txn: 5, New: two}, second, first},
		{Cell{Key: "a", Val: one, Txn: 1 << 40, New: two}, second, first},
		{Cell{Key: "a", Val: one, Txn: 5}, Cell{}, first},
		{Cell{Key: "a", Txn: 5, New: two}, second, Cell{}},
		{Cell{Key: "a", Txn: 5}, Cell{}, Cell{}},
	} {
		checkCommit(t, x.c, x.commit, x.commit.Key != "")
		checkUndo(t, x.c, x.undo, x.undo.Key != "")
	}
}

func TestCommitOfAnyCell(t *testing.T) {
	for _, c := range anyCells() {
		if c.Txn > 0 {
			want, left := kept(c.Key, c.New)
			checkCommit(t, c, want, left)
		} else {
			checkCommit(t, c, c, true)
		}
	}
}

func TestUndoOfAnyCell(t *testing.T) {
	for _, c := range anyCells() {
		want, left := kept(c.Key, c.Val)
		checkUndo(t, c, want, left)
	}
}

// What is left may be, and is what the one side or the other had seen.
func TestWhatIsLeftMayBe(t *testing.T) {
	for _, c := range thatMay() {
		if got, ok := Commit(c); ok && (!May(got) || got.Txn != 0 || !sameVal(See(got, 0), See(c, c.Txn))) {
			t.Errorf("P10.1: Commit(%s) = %s", told(c), told(got))
		}
		if got, ok := Undo(c); ok && (!May(got) || got.Txn != 0 || !sameVal(See(got, 0), See(c, 0))) {
			t.Errorf("P10.1: Undo(%s) = %s", told(c), told(got))
		}
	}
}

func TestEqOfThoseThatMay(t *testing.T) {
	l := thatMay()
	for i, a := range l {
		for j, b := range l {
			if got := Eq(a, b); got != (i == j) {
				t.Errorf("P10.1: Eq(%s, %s) = %v", told(a), told(b), got)
			}
		}
	}
}

func TestEqOfCellsThatDifferInOneField(t *testing.T) {
	c := Cell{Key: "a", Val: float(1), Txn: 5, New: text("two")}
	for _, d := range []Cell{
		{Key: "b", Val: float(1), Txn: 5, New: text("two")},
		{Key: "ab", Val: float(1), Txn: 5, New: text("two")},
		{Val: float(1), Txn: 5, New: text("two")},
		{Key: "a", Val: float(2), Txn: 5, New: text("two")},
		{Key: "a", Val: api.Val{Kind: api.VText, F: 1}, Txn: 5, New: text("two")},
		{Key: "a", Val: api.Val{Kind: api.VFloat, F: 1, S: "x"}, Txn: 5, New: text("two")},
		{Key: "a", Txn: 5, New: text("two")},
		{Key: "a", Val: float(1), Txn: 6, New: text("two")},
		{Key: "a", Val: float(1), Txn: -5, New: text("two")},
		{Key: "a", Val: float(1), Txn: 5 + 1<<32, New: text("two")},
		{Key: "a", Val: float(1), New: text("two")},
		{Key: "a", Val: float(1), Txn: 5, New: text("tw")},
		{Key: "a", Val: float(1), Txn: 5, New: api.Val{S: "two"}},
		{Key: "a", Val: float(1), Txn: 5, New: api.Val{Kind: api.VText, F: 1, S: "two"}},
		{Key: "a", Val: float(1), Txn: 5},
	} {
		if Eq(c, d) || Eq(d, c) {
			t.Errorf("P10.1: Eq(%s, %s) is true", told(c), told(d))
		}
		if !Eq(d, d) {
			t.Errorf("P10.1: Eq(%s, itself) is false", told(d))
		}
	}
}

// The floats are held against each other as datum.Eq does, not by == and not
// bit by bit.
func TestEqOfFloats(t *testing.T) {
	nans := []float64{of(oneNaN), of(oneNaN | 1), of(oneNaN | signBit), of(plusInf | 1), of(math.MaxUint64)}
	others := []float64{0, of(signBit), 1, of(plusInf)}
	floats := append(nans, others...)
	for i, f := range floats {
		for j, g := range floats {
			want := i == j || i < len(nans) && j < len(nans)
			for _, kind := range []int{api.VFloat, api.VText, api.VNone, 9} {
				v, w := api.Val{Kind: kind, F: f}, api.Val{Kind: kind, F: g}
				if Eq(Cell{Key: "a", Val: v, Txn: 5}, Cell{Key: "a", Val: w, Txn: 5}) != want {
					t.Errorf("P10.1: Eq with the Vals %s, %s is not %v", toldVal(v), toldVal(w), want)
				}
				if Eq(Cell{Key: "a", Txn: 5, New: v}, Cell{Key: "a", Txn: 5, New: w}) != want {
					t.Errorf("P10.1: Eq with the News %s, %s is not %v", toldVal(v), toldVal(w), want)
				}
			}
		}
	}
}

func TestEqOfAnyTwo(t *testing.T) {
	one := func(v, w api.Val) bool {
		return v.Kind == w.Kind && v.S == w.S && (bitsOf(v.F) == bitsOf(w.F) || v.F != v.F && w.F != w.F)
	}
	l := anyCells()
	for _, a := range l {
		for _, b := range l {
			want := a.Key == b.Key && a.Txn == b.Txn && one(a.Val, b.Val) && one(a.New, b.New)
			if got := Eq(a, b); got != want {
				t.Errorf("P10.1: Eq(%s, %s) = %v", told(a), told(b), got)
			}
		}
	}
}

// A call's answer hangs on its arguments alone, so that asking again tells the
// same.
func TestAskedAgain(t *testing.T) {
	for _, c := range anyCells() {
		commit, left := Commit(c)
		undo, rest := Undo(c)
		Write(c, 3, text("x"))
		again, ok := Commit(c)
		if !same(commit, again) || ok != left {
			t.Errorf("P0.5: Commit(%s): two answers", told(c))
		}
		if again, ok = Undo(c); !same(undo, again) || ok != rest {
			t.Errorf("P0.5: Undo(%s): two answers", told(c))
		}
	}
}
