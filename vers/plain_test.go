package vers

import (
	"fmt"
	"maps"
	"math"
	"slices"
	"strings"
	"testing"

	"engross/alloc"
	"engross/api"
	"engross/cell"
	"engross/float"
	"engross/node"
	"engross/sheet"
	"engross/tree"
)

// What the tests lean on: pages to lie beneath, values of all sorts, and a
// plain model of what is to be seen.

// source is a small generator, so that every run tries the same inputs.
type source uint64

func (s *source) next() uint64 {
	*s ^= *s << 13
	*s ^= *s >> 7
	*s ^= *s << 17
	return uint64(*s)
}

func (s *source) below(n int) int { return int(s.next() >> 8 % uint64(n)) }

func (s *source) word(n int) string {
	b := make([]byte, n)
	for i := range b {
		b[i] = byte(s.next() >> 16)
	}
	return string(b)
}

// seeded is a source that has forgotten how small its seed was.
func seeded(n int) *source {
	s := source(uint64(n)*0x9e3779b97f4a7c15 + 1)
	for range 4 {
		s.next()
	}
	return &s
}

// ground is pages to lie beneath. It hands out the very bytes that it keeps,
// beside an error too.
type ground struct {
	pages [96][]byte
	errs  [96]api.Errno
}

func (g *ground) Page(no int) ([]byte, api.Errno) {
	if no < 0 || no > 95 {
		return nil, api.ErrRange
	}
	return g.pages[no], g.errs[no]
}

func noughts() *ground {
	g := &ground{}
	for no := range g.pages {
		g.pages[no] = make([]byte, 256)
	}
	return g
}

// copied is pages of its own, as p tells them now.
func copied(p sheet.Pages) *ground {
	g := &ground{}
	for no := range g.pages {
		b, err := p.Page(no)
		g.pages[no], g.errs[no] = slices.Clone(b), err
	}
	return g
}

// lay makes n the page no, in use.
func (g *ground) lay(no int, n node.Node) {
	b, err := node.Encode(n)
	if err != api.OK {
		panic(fmt.Sprint("no page: ", n))
	}
	g.pages[no] = b
	g.pages[1][no/8] |= 1 << (no % 8)
}

// state is all that pages tell, and of a sheet its changes.
type state struct {
	pages   [96]string
	errs    [96]api.Errno
	changes [96]string
}

func stateOf(p sheet.Pages) state {
	var x state
	for no := range x.pages {
		b, err := p.Page(no)
		x.pages[no], x.errs[no] = string(b), err
	}
	if s, is := p.(*sheet.Sheet); is {
		for _, c := range s.Changes() {
			x.changes[c.No] = string(c.B)
		}
	}
	return x
}

// stays asks that p is as it was.
func stays(t *testing.T, what string, p sheet.Pages, was state) {
	t.Helper()
	if stateOf(p) != was {
		t.Fatalf("%s: the pages were changed", what)
	}
}

func none() api.Val { return api.Val{} }

func text(s string) api.Val { return api.Val{Kind: api.VText, S: s} }

func number(f float64) api.Val { return api.Val{Kind: api.VFloat, F: f} }

// values are some of each kind, the edges among them.
func values() []api.Val {
	return []api.Val{
		none(), text(""), text("x"), text("\x00\xff"), text(strings.Repeat("v", 20)),
		number(0), number(math.Copysign(0, -1)), number(1), number(-1.5), number(math.Inf(1)), number(math.Inf(-1)),
		number(float.Clean(math.NaN())), number(math.MaxFloat64), number(math.SmallestNonzeroFloat64),
	}
}

func (s *source) val() api.Val {
	if s.below(2) == 0 {
		return text(s.word(s.below(21)))
	}
	l := values()
	return l[s.below(len(l))]
}

// same tells +0 from -0; all NaNs are one.
func same(a, b api.Val) bool {
	f := math.Float64bits(a.F) == math.Float64bits(b.F) || a.F != a.F && b.F != b.F
	return a.Kind == b.Kind && a.S == b.S && f
}

func samePair(a, b api.Pair) bool { return a.Key == b.Key && same(a.Val, b.Val) }

func sameCell(a, b cell.Cell) bool {
	return a.Key == b.Key && a.Txn == b.Txn && same(a.Val, b.Val) && same(a.New, b.New)
}

// plain is what is to be seen: what all see, and beside it who has written a
// key, and what (VNone: that there is nothing).
type plain struct {
	all map[string]api.Val
	own map[string]written
}

type written struct {
	txn int64
	val api.Val
}

func fresh() *plain { return &plain{all: map[string]api.Val{}, own: map[string]written{}} }

func (m *plain) see(txn int64, k string) api.Val {
	if w, has := m.own[k]; has && w.txn == txn {
		return w.val
	}
	return m.all[k]
}

// keys are all of which somebody sees something, rising.
func (m *plain) keys() []string {
	l := slices.AppendSeq(slices.Collect(maps.Keys(m.all)), maps.Keys(m.own))
	slices.Sort(l)
	return slices.Compact(l)
}

func (m *plain) in(txn int64, from, to string) []api.Pair {
	var l []api.Pair
	for _, k := range m.keys() {
		if v := m.see(txn, k); v.Kind != api.VNone && k >= from && (to == "" || k < to) {
			l = append(l, api.Pair{Key: k, Val: v})
		}
	}
	return l
}

func (m *plain) cells() []cell.Cell {
	var l []cell.Cell
	for _, k := range m.keys() {
		l = append(l, cell.Cell{Key: k, Val: m.all[k], Txn: m.own[k].txn, New: m.own[k].val})
	}
	return l
}

func (m *plain) busy(txn int64, k string) bool {
	w, has := m.own[k]
	return has && w.txn != txn
}

func (m *plain) write(txn int64, k string, v api.Val) {
	m.own[k] = written{txn, v}
	if _, has := m.all[k]; !has && v.Kind == api.VNone {
		delete(m.own, k)
	}
}

// end ends what was written by those that are meant: committed it is what all
// see.
func (m *plain) end(meant func(txn int64) bool, committed bool) int {
	count := 0
	for k, w := range maps.Clone(m.own) {
		if !meant(w.txn) {
			continue
		}
		count++
		delete(m.own, k)
		if committed {
			m.all[k] = w.val
		}
		if m.all[k].Kind == api.VNone {
			delete(m.all, k)
		}
	}
	return count
}

func (m *plain) copied() *plain { return &plain{all: maps.Clone(m.all), own: maps.Clone(m.own)} }

// askers are all that have written, and some that see what all see.
func (m *plain) askers() []int64 {
	l := []int64{0, -1, 1, 1 << 40, 1<<40 + 1, math.MinInt64, math.MaxInt64}
	for _, w := range m.own {
		l = append(l, w.txn)
	}
	slices.Sort(l)
	return slices.Compact(l)
}

// right asks that the tree is right and has just the cells of m.
func right(t *testing.T, what string, p sheet.Pages, m *plain) {
	t.Helper()
	if err := tree.Check(p); err != api.OK {
		t.Fatalf("%s: the tree is not right: %d", what, err)
	}
	holds(t, what, p, m)
}

// holds asks for the cells alone: pages that are in use may be another's.
func holds(t *testing.T, what string, p sheet.Pages, m *plain) {
	t.Helper()
	l, err := tree.Scan(p, "", "")
	if !slices.EqualFunc(l, m.cells(), sameCell) || err != api.OK {
		t.Fatalf("%s: the cells are %v, %d, want %v", what, l, err, m.cells())
	}
}

func sees(t *testing.T, what string, p sheet.Pages, m *plain, txn int64, k string) {
	t.Helper()
	if v, err := See(p, txn, k); !same(v, m.see(txn, k)) || err != api.OK {
		t.Fatalf("%s: P15.1: See(%d, %q) = %v, %d, want %v", what, txn, k, v, err, m.see(txn, k))
	}
}

func ranges(t *testing.T, what string, p sheet.Pages, m *plain, txn int64, from, to string) {
	t.Helper()
	l, err := Range(p, txn, from, to)
	if want := m.in(txn, from, to); !slices.EqualFunc(l, want, samePair) || err != api.OK {
		t.Fatalf("%s: P15.1: Range(%d, %q, %q) = %v, %d, want %v", what, txn, from, to, l, err, want)
	}
}

// whole asks all that there is to ask.
func whole(t *testing.T, what string, p sheet.Pages, m *plain) {
	t.Helper()
	right(t, what, p, m)
	for _, txn := range m.askers() {
		ranges(t, what, p, m, txn, "", "")
		for _, k := range m.keys() {
			sees(t, what, p, m, txn, k)
			sees(t, what, p, m, txn, k+"\x00")
			sees(t, what, p, m, txn, k[:len(k)-1])
		}
	}
}

func used(t *testing.T, p sheet.Pages) int {
	t.Helper()
	n, err := alloc.Count(p)
	if err != api.OK {
		t.Fatalf("Count: %d", err)
	}
	return n
}

// writes writes, and asks that the answer is as it must be: it answers whether
// that was OK.
func writes(t *testing.T, what string, s *sheet.Sheet, m *plain, txn int64, k string, v api.Val) bool {
	t.Helper()
	was := stateOf(s)
	err := Write(s, txn, k, v)
	if m.busy(txn, k) != (err == api.ErrBusy) || err != api.OK && err != api.ErrBusy && err != api.ErrFull {
		t.Fatalf("%s: P15.1: Write(%d, %q, %v) = %d, busy: %v", what, txn, k, v, err, m.busy(txn, k))
	}
	if err == api.ErrFull && m.fits(txn, k, v) {
		t.Fatalf("%s: P15.1: Write(%d, %q, %v): ErrFull, but there is room", what, txn, k, v)
	}
	if err != api.OK {
		stays(t, fmt.Sprintf("%s: P15.1: Write(%d, %q, %v) = %d", what, txn, k, v, err), s, was)
		return false
	}
	m.write(txn, k, v)
	return true
}

// fits says whether it needs no page to write v, for sure: the cell goes, or
// is no longer than it was, or there are few.
func (m *plain) fits(txn int64, k string, v api.Val) bool {
	now := cell.Cell{Key: k, Val: m.all[k], Txn: m.own[k].txn, New: m.own[k].val}
	next := cell.Cell{Key: k, Val: m.all[k], Txn: txn, New: v}
	gone := next.Val.Kind == api.VNone && v.Kind == api.VNone
	shorter := cell.May(now) && len(cell.Put(nil, next)) <= len(cell.Put(nil, now))
	return gone || shorter || len(m.keys()) < 20
}

// An end is Commit, Undo, or Clean, of which the transaction says nothing.
type end struct {
	name  string
	call  func(s *sheet.Sheet, txn int64) (int, api.Errno)
	model func(m *plain, txn int64) int
}

func ends() []end {
	of := func(txn int64) func(x int64) bool { return func(x int64) bool { return x == txn } }
	every := func(int64) bool { return true }
	return []end{
		{"Commit", Commit, func(m *plain, txn int64) int { return m.end(of(txn), true) }},
		{"Undo", Undo, func(m *plain, txn int64) int { return m.end(of(txn), false) }},
		{"Clean", func(s *sheet.Sheet, _ int64) (int, api.Errno) { return Clean(s) }, func(m *plain, _ int64) int { return m.end(every, false) }},
	}
}

// does does e, and asks that the answer is as it must be.
func (e end) does(t *testing.T, what string, s *sheet.Sheet, m *plain, txn int64) {
	t.Helper()
	count, was := used(t, s), stateOf(s)
	want := e.model(m, txn)
	if n, err := e.call(s, txn); n != want || err != api.OK {
		t.Fatalf("%s: P15.2: %s(%d) = %d, %d, want %d", what, e.name, txn, n, err, want)
	}
	if now := used(t, s); now > count {
		t.Fatalf("%s: P15.2: %s(%d): %d pages, then %d", what, e.name, txn, count, now)
	}
	if want == 0 {
		stays(t, fmt.Sprintf("%s: P15.2: %s(%d) of no cell", what, e.name, txn), s, was)
	}
}
