package node

import (
	"bytes"
	"encoding/binary"
	"math"
	"slices"
	"strings"
	"testing"

	"engross/api"
	"engross/cell"
)

// source is a small generator, so that every run tries the same inputs.
type source uint64

func (s *source) next() uint64 {
	*s ^= *s << 13
	*s ^= *s >> 7
	*s ^= *s << 17
	return uint64(*s)
}

func (s *source) below(n int) int { return int(s.next() >> 8 % uint64(n)) }

func (s *source) bytes(n int) []byte {
	b := make([]byte, n)
	for i := range b {
		b[i] = byte(s.next() >> 32)
	}
	return b
}

// The forms of the parts, made without the packages beneath.

func numberForm(n int64) string { return string(binary.AppendVarint(nil, n)) }

func textForm(s string) string { return numberForm(int64(len(s))) + s }

func valForm(v api.Val) string {
	kind := numberForm(int64(v.Kind))
	switch v.Kind {
	case api.VFloat:
		u := math.Float64bits(v.F)
		switch {
		case v.F != v.F:
			u = 0
		case math.Signbit(v.F):
			u = ^u
		default:
			u |= signBit
		}
		return kind + string(binary.BigEndian.AppendUint64(nil, u))
	case api.VText:
		return kind + textForm(v.S)
	}
	return kind
}

func cellForm(c cell.Cell) string {
	s := textForm(c.Key) + valForm(c.Val) + numberForm(c.Txn)
	if c.Txn > 0 {
		s += valForm(c.New)
	}
	return s
}

// written is the chapter's form of a node ahead of the noughts, also of some
// that may not be.
func written(n Node) string {
	parts := []string{}
	if n.Leaf {
		parts = append(parts, "\x01", numberForm(int64(len(n.Cells))))
		for _, c := range n.Cells {
			parts = append(parts, cellForm(c))
		}
	} else {
		parts = append(parts, "\x02", numberForm(int64(len(n.Kids))))
		for _, no := range n.Kids {
			parts = append(parts, numberForm(int64(no)))
		}
		for _, k := range n.Keys {
			parts = append(parts, textForm(k))
		}
	}
	return strings.Join(parts, "")
}

// pageOf is s and noughts, or what of s there is room for.
func pageOf(s string) []byte {
	b := make([]byte, 256)
	copy(b, s)
	return b
}

// reader goes through bytes part by part; bad is that one was wrong.
type reader struct {
	b   []byte
	bad bool
}

func (r *reader) number() int64 {
	n, k := binary.Varint(r.b)
	if k <= 0 || len(numberForm(n)) != k {
		r.bad, r.b = true, nil
		return 0
	}
	r.b = r.b[k:]
	return n
}

func (r *reader) take(n int64) []byte {
	if n < 0 || n > int64(len(r.b)) {
		r.bad, r.b = true, nil
		return nil
	}
	b := r.b[:n]
	r.b = r.b[n:]
	return b
}

func (r *reader) text(least, most int) string {
	s := string(r.take(r.number()))
	if len(s) < least || len(s) > most {
		r.bad = true
	}
	return s
}

func (r *reader) val() api.Val {
	v := api.Val{Kind: int(r.number())}
	switch v.Kind {
	case api.VNone:
	case api.VText:
		v.S = r.text(0, 20)
	case api.VFloat:
		b := r.take(8)
		if r.bad {
			return api.Val{}
		}
		u := binary.BigEndian.Uint64(b)
		switch {
		case u == 0:
			v.F = math.Float64frombits(oneNaN)
		case u >= signBit:
			v.F = math.Float64frombits(u ^ signBit)
		default:
			v.F = math.Float64frombits(^u)
		}
		r.bad = u != 0 && v.F != v.F
	default:
		r.bad = true
	}
	return v
}

func (r *reader) cell() cell.Cell {
	c := cell.Cell{Key: r.text(1, 16), Val: r.val(), Txn: r.number()}
	switch {
	case c.Txn < 0 || c.Txn > 1<<40:
		r.bad = true
	case c.Txn > 0:
		c.New = r.val()
	case c.Val.Kind == api.VNone:
		r.bad = true
	}
	return c
}

func (r *reader) leaf() Node {
	n := Node{Leaf: true}
	for count := r.number(); count != 0 && !r.bad; count-- {
		c := r.cell()
		for _, d := range n.Cells {
			r.bad = r.bad || d.Key >= c.Key
		}
		n.Cells = append(n.Cells, c)
	}
	return n
}

func (r *reader) fork() Node {
	n := Node{}
	count := r.number()
	if count < 1 || count > 32 {
		r.bad = true
		return n
	}
	for range count {
		no := r.number()
		r.bad = r.bad || no < 2 || no > 31
		n.Kids = append(n.Kids, int(no))
	}
	for range count - 1 {
		k := r.text(1, 16)
		for _, l := range n.Keys {
			r.bad = r.bad || l >= k
		}
		n.Keys = append(n.Keys, k)
	}
	return n
}

// wanted is what P11.1 asks of Decode.
func wanted(b []byte) (Node, api.Errno) {
	if len(b) != 256 {
		return Node{}, api.ErrCorrupt
	}
	r, n := reader{b: b[1:]}, Node{}
	switch b[0] {
	case 1:
		n = r.leaf()
	case 2:
		n = r.fork()
	default:
		r.bad = true
	}
	if r.bad || len(bytes.Trim(r.b, "\x00")) != 0 {
		return Node{}, api.ErrCorrupt
	}
	return n, api.OK
}

func checkDecode(t *testing.T, b []byte) {
	t.Helper()
	want, wantErr := wanted(b)
	got, err := Decode(b)
	if !same(got, want) || err != wantErr {
		t.Errorf("P11.1: Decode(%x) = %s, %d, want %s, %d", b, told(got), err, told(want), wantErr)
	}
	if err == api.OK {
		if again, e := Encode(got); e != api.OK || !bytes.Equal(again, b) {
			t.Errorf("P11.1: Decode(%x) = %s, whose page is %x, %d", b, told(got), again, e)
		}
	}
}

func corrupt(t *testing.T, b []byte) {
	t.Helper()
	n, err := Decode(b)
	if n.Leaf || n.Cells != nil || n.Keys != nil || n.Kids != nil || err != api.ErrCorrupt {
		t.Errorf("P11.1: Decode(%.300x) = %s, %d, want ErrCorrupt", b, told(n), err)
	}
}

func corruptPage(t *testing.T, s string) {
	t.Helper()
	if len(s) > 256 {
		t.Fatalf("a page of %d bytes", len(s))
	}
	corrupt(t, pageOf(s))
}

func refused(t *testing.T, n Node, want api.Errno) {
	t.Helper()
	if b, err := Encode(n); b != nil || err != want {
		t.Errorf("P11.1: Encode(%s) = %.20x, %d, want error %d", told(n), b, err, want)
	}
}

func TestKnownPages(t *testing.T) {
	const one = "\x02\xbf\xf0\x00\x00\x00\x00\x00\x00"
	long := strings.Repeat("k", 16)
	for _, x := range []struct {
		n    Node
		want string
	}{
		{leaf(), "\x01\x00"},
		{leafOf("k"), "\x01\x02\x02k\x04\x02v\x00"},
		{leafOf("a", "bc"), "\x01\x04\x02a\x04\x02v\x00\x04bc\x04\x02v\x00"},
		{leaf(cell.Cell{Key: "a", Val: float(1), Txn: 5, New: text("two")}, cell.Cell{Key: long, Txn: 64}),
			"\x01\x04\x02a" + one + "\x0a\x04\x06two\x20" + long + "\x00\x80\x01\x00"},
		{fork([]int{2}), "\x02\x02\x04"},
		{fork([]int{31}), "\x02\x02\x3e"},
		{fork([]int{2, 31}, "mn"), "\x02\x04\x04\x3e\x04mn"},
		{fork([]int{9, 4, 9}, "\x00", long), "\x02\x06\x12\x08\x12\x02\x00\x20" + long},
	} {
		if b, err := Encode(x.n); !bytes.Equal(b, pageOf(x.want)) || err != api.OK {
			t.Errorf("P11.1: Encode(%s) = %x, %d, want %x and noughts", told(x.n), b, err, x.want)
		}
		if n, err := Decode(pageOf(x.want)); !same(n, x.n) || err != api.OK {
			t.Errorf("P11.1: Decode(%x and noughts) = %s, %d, want %s", x.want, told(n), err, told(x.n))
		}
	}
}

func TestEncode(t *testing.T) {
	for _, n := range fitting() {
		if b, err := Encode(n); !bytes.Equal(b, pageOf(written(n))) || err != api.OK {
			t.Errorf("P11.1: Encode(%s) = %x, %d, want %x", told(n), b, err, pageOf(written(n)))
		}
	}
	for _, n := range tooLong() {
		refused(t, n, api.ErrFull)
	}
	for _, n := range slices.Concat(badLeaves(), badForks()) {
		refused(t, n, api.ErrForm)
	}
}

func TestEncodeTellsErrFormAheadOfErrFull(t *testing.T) {
	for _, n := range badAndTooLong() {
		if len(written(n)) <= 256 {
			t.Fatalf("%s is not too long", told(n))
		}
		refused(t, n, api.ErrForm)
	}
}

func TestEncodeOfAnySize(t *testing.T) {
	check := func(n Node, size int) {
		if size > 256 {
			refused(t, n, api.ErrFull)
			return
		}
		b, err := Encode(n)
		if len(b) != 256 || !bytes.Equal(b, pageOf(written(n))) || err != api.OK {
			t.Errorf("P11.1: Encode of a node of %d bytes: %x, %d", size, b, err)
		}
		checkDecode(t, b)
	}
	for size := 8; size <= 600; size++ {
		check(leafOfSize(size), size)
	}
	for size := 96; size <= 561; size++ {
		check(forkOfSize(32, size), size)
	}
	for size := 48; size <= 273; size++ {
		check(forkOfSize(16, size), size)
	}
}

func TestDecodeAnswersWhatEncodeTook(t *testing.T) {
	for _, n := range fitting() {
		b, _ := Encode(n)
		if got, err := Decode(b); !same(got, n) || err != api.OK {
			t.Errorf("P11.1: Decode(Encode(%s)) = %s, %d", told(n), told(got), err)
		}
		checkDecode(t, b)
	}
}

func TestDecodeOfAnotherLength(t *testing.T) {
	corrupt(t, nil)
	corrupt(t, []byte{})
	corrupt(t, make([]byte, 0, 256))
	for _, n := range fitting() {
		b, _ := Encode(n)
		for length := range 256 {
			corrupt(t, b[:length])
			corrupt(t, slices.Clip(b[:length]))
		}
		for _, more := range []int{1, 2, 255, 256, 257, 1 << 16} {
			corrupt(t, append(slices.Clone(b), make([]byte, more)...))
		}
		corrupt(t, append([]byte{0}, b...))
	}
	for _, n := range tooLong() {
		corrupt(t, []byte(written(n)))
	}
}

func TestDecodeOfAnotherFirstByte(t *testing.T) {
	corrupt(t, make([]byte, 256))
	corrupt(t, bytes.Repeat([]byte{0xff}, 256))
	for _, n := range fitting() {
		b, _ := Encode(n)
		for first := range 256 {
			b[0] = byte(first)
			if first == 1 || first == 2 {
				checkDecode(t, b)
			} else {
				corrupt(t, b)
			}
		}
	}
}

// wrongNumbers are no number's bytes, whatever follows them.
func wrongNumbers() []string {
	l := []string{strings.Repeat("\x80", 9) + "\x02", strings.Repeat("\xff", 10)}
	for k := 1; k <= 9; k++ {
		l = append(l, strings.Repeat("\x80", k)+"\x00", strings.Repeat("\x84", k)+"\x00", strings.Repeat("\xff", k)+"\x00")
	}
	return l
}

// otherCounts are the numbers of a few parts less than want and more, and
// those that would be want if they were cut or lost their sign.
func otherCounts(want int64) []int64 {
	l := []int64{-1, -2, -want, -want - 1, want + 1, want + 2, want + 128, want + 256, want + 1<<16, want + 1<<32, want - 1<<32, want + 1<<62,
		math.MaxInt64, math.MinInt64, math.MinInt64 + want, 64, 1000}
	for less := range want {
		l = append(l, less)
	}
	return slices.DeleteFunc(l, func(n int64) bool { return n == want })
}

func TestDecodeOfAWrongNumberOfParts(t *testing.T) {
	for _, n := range fitting() {
		s := written(n)
		if len(s) > 240 {
			continue
		}
		head, parts := s[:1], s[2:]
		for _, bad := range wrongNumbers() {
			corruptPage(t, head+bad+parts)
		}
		right := int64(len(n.Cells) + len(n.Kids))
		for _, count := range otherCounts(right) {
			checkDecode(t, pageOf(head+numberForm(count)+parts))
			// Of fewer Kids the others may happen to be Keys.
			if n.Leaf || count > right || count < 1 {
				corruptPage(t, head+numberForm(count)+parts)
			}
		}
	}
	for _, count := range otherCounts(1) {
		if count != 0 {
			corruptPage(t, "\x01"+numberForm(count))
		}
		corruptPage(t, "\x02"+numberForm(count))
	}
}

// The number says how many there are, and is all that is wrong.
func TestDecodeByTheNumberOfKids(t *testing.T) {
	for kids := range 80 {
		n := fork(pages(kids), rising(max(kids, 1)-1)...)
		if len(written(n)) > 256 {
			break
		}
		checkDecode(t, pageOf(written(n)))
		if _, err := Decode(pageOf(written(n))); (err == api.OK) != (kids >= 1 && kids <= 32) {
			t.Errorf("P11.1: Decode of %d Kids: %d", kids, err)
		}
	}
}

// A page is cut off within its last part, or ahead of it: the parts that are
// there are right.
func TestDecodeOfAPageThatEndsWithinAPart(t *testing.T) {
	for _, n := range tooLong() {
		corrupt(t, pageOf(written(n)))
	}
	for size := 257; size <= 561; size++ {
		corrupt(t, pageOf(written(leafOfSize(size))))
		corrupt(t, pageOf(written(forkOfSize(32, size))))
	}
	// The last part in all its forms, and each of its bytes the page's last.
	for _, c := range goodCells() {
		c.Key = strings.Repeat("\xff", 16)
		last := cellForm(c)
		for cut := 1; cut <= len(last); cut++ {
			n := leafOfSize(256 - (len(last) - cut))
			n.Cells = append(n.Cells, c)
			s := written(n)
			if len(s) != 256+cut {
				t.Fatalf("%d bytes, and %d of them cut", len(s), cut)
			}
			corrupt(t, pageOf(s))
			checkDecode(t, pageOf(s))
		}
	}
	corrupt(t, []byte("\x01"+strings.Repeat("\x80", 255)))
	corrupt(t, []byte("\x02"+strings.Repeat("\x80", 255)))
	corrupt(t, []byte("\x02"+strings.Repeat("\x04", 255)))
	corrupt(t, []byte("\x02"+numberForm(math.MaxInt64)+strings.Repeat("\x04", 245)))
}

func TestDecodeOfWhatStandsBehindTheParts(t *testing.T) {
	for _, n := range fitting() {
		for at := len(written(n)); at < 256; at++ {
			for _, x := range []byte{1, 2, 4, 7, 'a', 0x80, 0xff} {
				b := pageOf(written(n))
				b[at] = x
				corrupt(t, b)
			}
		}
	}
}

func TestDecodeOfNodesThatMayNotBe(t *testing.T) {
	tried := 0
	for _, n := range slices.Concat(badLeaves(), badForks()) {
		b := pageOf(written(n))
		checkDecode(t, b)
		// What is wrong with some of them is not written: a leaf's Kids, say.
		if _, err := wanted(b); err != api.OK {
			tried++
		}
	}
	if tried < 100 {
		t.Errorf("only %d of the pages were none", tried)
	}
}

func TestDecodeOfPartsThatMayNotBe(t *testing.T) {
	good, other := cellForm(cellOf("b")), cellForm(cellOf("c"))
	for _, s := range []string{
		other + good, good + good, good + cellForm(cell.Cell{Key: "b", Val: float(1)}), cellForm(cellOf("")) + good, good + cellForm(cellOf(strings.Repeat("k", 17))),
		good + cellForm(cell.Cell{Key: "c"}), cellForm(cell.Cell{Key: "a"}) + good, good + cellForm(cell.Cell{Key: "c", Val: float(1), Txn: -1}),
		good + cellForm(cell.Cell{Key: "c", Val: float(1), Txn: 1<<40 + 1}), good + "\x02c\x06\x00", good + "\x02c\x01\x00",
		good + "\x02c\x02\x00\x00\x00\x00\x00\x00\x00\x01\x00", good + "\x82\x00c\x04\x02v\x00", good + "\x02c\x84\x00\x02v\x00", good + "\x02c\x04\x82\x00v\x00",
		good + "\x02c\x04\x02v\x80\x00", good + "\x02c\x04\x02v\x01", good + "\x02c\x04\x2a" + strings.Repeat("x", 21) + "\x00",
	} {
		corruptPage(t, "\x01\x04"+s)
	}
	for _, s := range []string{
		"\x04\x06\x08\x02b\x02a", "\x04\x06\x08\x02a\x02a", "\x04\x06\x08\x00\x02a", "\x04\x06\x08\x02a\x00", "\x04\x06\x08\x02a\x22" + strings.Repeat("k", 17),
		"\x04\x06\x08\x22" + strings.Repeat("a", 17) + "\x02b", "\x04\x06\x08\x02a\x82\x00b", "\x04\x06\x08\x02a\x01b", "\x04\x06\x08\x02a\x03b",
		"\x02\x06\x08\x02a\x02b", "\x04\x02\x08\x02a\x02b", "\x04\x06\x02\x02a\x02b", "\x00\x06\x08\x02a\x02b", "\x04\x06\x40\x02a\x02b", "\x40\x06\x08\x02a\x02b",
		"\x03\x06\x08\x02a\x02b", "\x04\x06\x01\x02a\x02b", "\x84\x00\x06\x08\x02a\x02b", "\x04\x06\x88\x00\x02a\x02b", "\x04\x80\x01\x08\x02a\x02b",
		"\x04\x06" + numberForm(4+1<<32) + "\x02a\x02b", "\x04\x06" + numberForm(math.MaxInt64) + "\x02a\x02b", "\x04\x06" + strings.Repeat("\xff", 10) + "\x02a\x02b",
		"\x04\x06\x08\x02a", "\x04\x06\x08", "\x04\x06", "\x04\x06\x08\x02a\x02b\x02c", "\x04\x06\x08\x02a" + numberForm(math.MaxInt64) + "b",
	} {
		corruptPage(t, "\x02\x06"+s)
	}
	if _, err := Decode(pageOf("\x02\x06\x04\x06\x08\x02a\x02b")); err != api.OK {
		t.Errorf("P11.1: the page that the others are made of: %d", err)
	}
	for _, no := range badKids() {
		corruptPage(t, "\x02\x02"+numberForm(int64(no)))
	}
}

// otherBytes are all but old, or a few of them.
func otherBytes(old byte, all bool) []byte {
	l := []byte{old ^ 1, old ^ 2, old ^ 4, old ^ 8, old ^ 16, old ^ 32, old ^ 64, old ^ 128, old + 1, old + 2, old - 1, old - 2, ^old, 0, 1, 2}
	if all {
		for x := range 256 {
			l = append(l, byte(x))
		}
	}
	slices.Sort(l)
	return slices.DeleteFunc(slices.Compact(l), func(x byte) bool { return x == old })
}

func TestDecodeOfPagesChangedInOneByte(t *testing.T) {
	for _, n := range fitting() {
		size := len(written(n))
		b := pageOf(written(n))
		for at, old := range pageOf(written(n)) {
			// Where there are many parts, and behind the parts, a few values are
			// as good as all.
			for _, x := range otherBytes(old, size < 100 && at < size+4) {
				b[at] = x
				checkDecode(t, b)
			}
			b[at] = old
		}
	}
}

func TestDecodeOfAnyBytes(t *testing.T) {
	s := source(1)
	for i := range 20000 {
		b := s.bytes(256)
		checkDecode(t, b)
		b[0] = byte(1 + i%2)
		checkDecode(t, b)
		b[1] = byte(2 * s.below(5))
		checkDecode(t, b)
		checkDecode(t, pageOf(string(b[:s.below(40)])))
	}
	for a := range 256 {
		for b := range 256 {
			checkDecode(t, pageOf(string([]byte{1, byte(a), byte(b)})))
			checkDecode(t, pageOf(string([]byte{2, byte(a), byte(b)})))
			checkDecode(t, pageOf(string([]byte{2, 4, 4, 6, byte(a), byte(b)})))
			checkDecode(t, pageOf(string([]byte{1, 2, 2, 'k', byte(a), byte(b)})))
		}
	}
}

// likely are pages that often are a node's, and else not far from one.
func likely(s *source) []byte {
	keys := []string{}
	for range s.below(6) {
		keys = append(keys, string(s.bytes(1+s.below(16))))
	}
	if s.below(8) > 0 {
		slices.Sort(keys)
	}
	if s.below(8) == 0 {
		keys = append(keys, string(s.bytes(s.below(19))))
	}
	n := Node{Leaf: s.below(2) == 0}
	if n.Leaf {
		some := goodCells()
		for _, k := range keys {
			c := some[s.below(len(some))]
			c.Key = k
			n.Cells = append(n.Cells, c)
		}
	} else {
		n.Keys = keys
		for range len(keys) + 1 {
			n.Kids = append(n.Kids, 2+s.below(30))
		}
		if s.below(8) == 0 {
			n.Kids[s.below(len(n.Kids))] = s.below(40) - 4
		}
	}
	b := pageOf(written(n))
	if s.below(6) == 0 {
		b[s.below(256)] = byte(s.below(5))
	}
	return b
}

func TestDecodeOfLikelyPages(t *testing.T) {
	s := source(2)
	taken := [2]int{}
	const tries = 40000
	for range tries {
		b := likely(&s)
		checkDecode(t, b)
		_, err := Decode(b)
		if err == api.OK {
			taken[b[0]-1]++
		}
	}
	if all := taken[0] + taken[1]; taken[0] < 5000 || taken[1] < 5000 || tries-all < 5000 {
		t.Errorf("of %d pages %d leaves and %d others were taken", tries, taken[0], taken[1])
	}
}

func spoil(b []byte) {
	b = b[:cap(b)]
	for i := range b {
		b[i] ^= 0xa5
	}
}

// spoilNode writes into all of n's lists, their spare room too.
func spoilNode(n Node) {
	n = whole(n)
	for i := range n.Cells {
		n.Cells[i] = cell.Cell{Key: "spoilt", Txn: -9}
	}
	for i := range n.Keys {
		n.Keys[i] = "spoilt"
	}
	for i := range n.Kids {
		n.Kids[i] = -9
	}
}

func TestEncodeAnswersNewMemory(t *testing.T) {
	for _, n := range fitting() {
		arg := roomy(n)
		a, _ := Encode(arg)
		b, _ := Encode(arg)
		spoil(b)
		if !bytes.Equal(a, pageOf(written(n))) || !same(arg, n) {
			t.Errorf("P0.3: %s: what was written into an answer shows elsewhere", told(n))
		}
		spoilNode(arg)
		if !bytes.Equal(a, pageOf(written(n))) {
			t.Errorf("P0.3: %s: the argument was kept", told(n))
		}
		if c, _ := Encode(n); !bytes.Equal(c, a) {
			t.Errorf("P0.3: %s: what was written into an answer shows in another call", told(n))
		}
	}
}

func TestDecodeLeavesTheArgumentAlone(t *testing.T) {
	inputs := [][]byte{nil, {}, {1}, {2, 2}, make([]byte, 256), pageOf("\x01\x04"), pageOf("\x02\x04\x04\x06")}
	for _, n := range fitting() {
		b := pageOf(written(n))
		inputs = append(inputs, b, b[:255], append(slices.Clone(b), 0))
	}
	for _, in := range inputs {
		room := append(slices.Clone(in), 1, 2, 3)
		before := slices.Clone(room)
		Decode(room[:len(in)])
		if !bytes.Equal(room, before) {
			t.Errorf("P0.3: Decode(%x): the argument or its spare room was written", in)
		}
	}
}

func TestDecodeAnswersNewMemory(t *testing.T) {
	for _, n := range fitting() {
		b := pageOf(written(n))
		first, _ := Decode(b)
		second, _ := Decode(b)
		spoilNode(second)
		if !same(first, n) || !bytes.Equal(b, pageOf(written(n))) {
			t.Errorf("P0.3: %s: what was written into an answer shows elsewhere", told(n))
		}
		third, _ := Decode(b)
		spoil(b)
		if !same(first, n) || !same(third, n) {
			t.Errorf("P0.3: %s: the argument was kept", told(n))
		}
	}
}

func TestDecodeAskedAgain(t *testing.T) {
	s := source(3)
	for range 2000 {
		b := likely(&s)
		n, err := Decode(b)
		Decode(pageOf("\x01\x02\x02k\x04\x02v\x00"))
		Decode(pageOf("\x02\x04\x04\x3e\x04mn"))
		Decode(nil)
		if again, e := Decode(slices.Clone(b)); !same(n, again) || e != err {
			t.Errorf("P0.5: Decode(%x): one call, two answers", b)
		}
	}
}
