package cell

import (
	"bytes"
	"encoding/binary"
	"math"
	"strings"
	"testing"

	"engross/api"
)

// source is a small generator, so that every run tries the same inputs.
type source uint64

func (s *source) next() uint64 {
	*s ^= *s << 13
	*s ^= *s >> 7
	*s ^= *s << 17
	return uint64(*s)
}

func (s *source) below(n int) int { return int(s.next() >> 8 % uint64(n)) }

func (s *source) bytes(n int) []byte {
	b := make([]byte, n)
	for i := range b {
		b[i] = byte(s.next() >> 32)
	}
	return b
}

// The forms of the parts, made without the packages beneath.

func numberForm(n int64) string { return string(binary.AppendVarint(nil, n)) }

func textForm(s string) string { return numberForm(int64(len(s))) + s }

func valForm(v api.Val) string {
	kind := numberForm(int64(v.Kind))
	switch v.Kind {
	case api.VFloat:
		u := bitsOf(v.F)
		switch {
		case v.F != v.F:
			u = 0
		case math.Signbit(v.F):
			u = ^u
		default:
			u |= signBit
		}
		return kind + string(binary.BigEndian.AppendUint64(nil, u))
	case api.VText:
		return kind + textForm(v.S)
	}
	return kind
}

// written is the chapter's form of a cell, also of some that may not be.
func written(c Cell) string {
	s := textForm(c.Key) + valForm(c.Val) + numberForm(c.Txn)
	if c.Txn > 0 {
		s += valForm(c.New)
	}
	return s
}

// reader goes through bytes part by part, and stays at the first error.
type reader struct {
	b   []byte
	at  int
	err api.Errno
}

func (r *reader) fail(err api.Errno) {
	if r.err == api.OK {
		r.err = err
	}
}

func (r *reader) number() int64 {
	if r.err != api.OK {
		return 0
	}
	b := r.b[r.at:]
	b = b[:min(len(b), 10)]
	n, k := binary.Varint(b)
	switch {
	case k < 0, k == 0 && len(b) == 10, k > 0 && len(numberForm(n)) != k:
		r.fail(api.ErrForm)
		return 0
	case k == 0:
		r.fail(api.ErrMore)
		return 0
	}
	r.at += k
	return n
}

func (r *reader) take(n int) []byte {
	if r.err == api.OK && n > len(r.b)-r.at {
		r.fail(api.ErrMore)
	}
	if r.err != api.OK {
		return make([]byte, n)
	}
	r.at += n
	return r.b[r.at-n : r.at]
}

func (r *reader) text() string {
	n := r.number()
	if n < 0 || n > 1<<16 {
		r.fail(api.ErrForm)
	}
	if r.err != api.OK {
		return ""
	}
	return string(r.take(int(n)))
}

func (r *reader) val() api.Val {
	v := api.Val{Kind: int(r.number())}
	switch v.Kind {
	case api.VNone:
	case api.VFloat:
		u := binary.BigEndian.Uint64(r.take(8))
		switch {
		case u == 0:
			v.F = of(oneNaN)
		case u >= signBit:
			v.F = of(u ^ signBit)
		default:
			v.F = of(^u)
		}
		if u != 0 && v.F != v.F {
			r.fail(api.ErrForm)
		}
	case api.VText:
		v.S = r.text()
		if len(v.S) > 20 {
			r.fail(api.ErrForm)
		}
	default:
		r.fail(api.ErrForm)
	}
	return v
}

// wanted is what P10.2 asks of Get.
func wanted(b []byte) (Cell, int, api.Errno) {
	r := reader{b: b}
	c := Cell{Key: r.text(), Val: r.val(), Txn: r.number()}
	if c.Txn > 0 {
		c.New = r.val()
	}
	if c.Key == "" || len(c.Key) > 16 || c.Txn < 0 || c.Txn > 1<<40 || c.Txn == 0 && c.Val.Kind == api.VNone {
		r.fail(api.ErrForm)
	}
	if r.err != api.OK {
		return Cell{}, 0, r.err
	}
	return c, r.at, api.OK
}

func checkGet(t *testing.T, b []byte) {
	t.Helper()
	wc, wn, we := wanted(b)
	if c, n, err := Get(b); !same(c, wc) || n != wn || err != we {
		t.Errorf("P10.2: Get(%.60x) = %s, %d, %d, want %s, %d, %d", b, told(c), n, err, told(wc), wn, we)
	}
}

func refused(t *testing.T, s string, want api.Errno) {
	t.Helper()
	if c, n, err := Get([]byte(s)); !same(c, Cell{}) || n != 0 || err != want {
		t.Errorf("P10.2: Get(%.60x) = %s, %d, %d, want error %d", s, told(c), n, err, want)
	}
}

// places are the lengths at which to cut a text off: all, of a short one.
func places(n int) []int {
	l := []int{}
	for i := range n {
		if i < 100 || i >= n-100 {
			l = append(l, i)
		}
	}
	return l
}

func cutOff(t *testing.T, s string) {
	t.Helper()
	for _, n := range places(len(s)) {
		refused(t, s[:n], api.ErrMore)
	}
}

func tails() []string {
	return []string{"", "\x00", "\x01", "\x02k", "\x80", "\x80\x00", "\x04\x06two", strings.Repeat("\xff", 12), strings.Repeat("z", 300)}
}

func spoil(b []byte) {
	b = b[:cap(b)]
	for i := range b {
		b[i] ^= 0xa5
	}
}

func TestKnownBytes(t *testing.T) {
	const one, two = "\x02\xbf\xf0\x00\x00\x00\x00\x00\x00", "\x04\x06two"
	long := strings.Repeat("k", 16)
	for _, x := range []struct {
		c    Cell
		want string
	}{
		{Cell{Key: "k", Val: text("two")}, "\x02k" + two + "\x00"},
		{Cell{Key: "k", Val: float(1)}, "\x02k" + one + "\x00"},
		{Cell{Key: "a", Val: float(1), Txn: 5, New: text("two")}, "\x02a" + one + "\x0a" + two},
		{Cell{Key: "a", Val: text("two"), Txn: 1, New: float(1)}, "\x02a" + two + "\x02" + one},
		{Cell{Key: "a", Val: float(1), Txn: 64}, "\x02a" + one + "\x80\x01\x00"},
		{Cell{Key: "a", Txn: 63, New: text("two")}, "\x02a\x00\x7e" + two},
		{Cell{Key: "a", Txn: 1}, "\x02a\x00\x02\x00"},
		{Cell{Key: "\x00", Val: text("")}, "\x02\x00\x04\x00\x00"},
		{Cell{Key: long, Val: text(strings.Repeat("x", 20)), Txn: 1 << 40, New: float(of(oneNaN))},
			"\x20" + long + "\x04\x28" + strings.Repeat("x", 20) + "\x80\x80\x80\x80\x80\x40" + "\x02\x00\x00\x00\x00\x00\x00\x00\x00"},
	} {
		if got := Put(nil, x.c); string(got) != x.want {
			t.Errorf("P10.2: Put(%s) = %x, want %x", told(x.c), got, x.want)
		}
		if c, n, err := Get([]byte(x.want)); !same(c, x.c) || n != len(x.want) || err != api.OK {
			t.Errorf("P10.2: Get(%x) = %s, %d, %d, want %s", x.want, told(c), n, err, told(x.c))
		}
	}
}

func TestPutKeepsWhatStandsAhead(t *testing.T) {
	for _, head := range []string{"", "z", "\x80\x80", "\x02k", strings.Repeat("h", 300)} {
		for _, c := range thatMay() {
			if got := Put([]byte(head), c); string(got) != head+written(c) {
				t.Errorf("P10.2: Put behind %d bytes, %s = %x", len(head), told(c), got)
			}
		}
	}
}

func TestPutToNil(t *testing.T) {
	for _, c := range thatMay() {
		for _, b := range [][]byte{nil, {}, make([]byte, 0, 100)} {
			if got := Put(b, c); string(got) != written(c) {
				t.Errorf("P0.4: Put(%v, %s) = %x", b, told(c), got)
			}
		}
	}
}

func TestGetAnswersWhatPutWrote(t *testing.T) {
	for _, c := range thatMay() {
		for _, tail := range tails() {
			got, n, err := Get(append(Put(nil, c), tail...))
			if !same(got, c) || n != len(written(c)) || err != api.OK {
				t.Errorf("P10.2: Get(Put(%s), %x) = %s, %d, %d", told(c), tail, told(got), n, err)
			}
		}
	}
}

func TestGetOfAList(t *testing.T) {
	b := []byte{}
	for _, c := range thatMay() {
		b = Put(b, c)
	}
	for _, c := range thatMay() {
		got, n, err := Get(b)
		if !same(got, c) || err != api.OK {
			t.Fatalf("P10.2: %s, %d, want %s", told(got), err, told(c))
		}
		b = b[n:]
	}
	refused(t, string(b), api.ErrMore)
}

func TestGetOfACutCell(t *testing.T) {
	for _, c := range thatMay() {
		cutOff(t, written(c))
		// With the rest of it in the spare room, too.
		b := Put(nil, c)
		for n := range b {
			if got, k, err := Get(b[:n]); !same(got, Cell{}) || k != 0 || err != api.ErrMore {
				t.Errorf("P10.2: Get of %d bytes of %s = %s, %d, %d", n, told(c), told(got), k, err)
			}
		}
	}
}

func TestGetOfNoByte(t *testing.T) {
	for _, b := range [][]byte{nil, {}, make([]byte, 0, 9), []byte("\x02k\x00\x02\x00")[:0]} {
		if c, n, err := Get(b); !same(c, Cell{}) || n != 0 || err != api.ErrMore {
			t.Errorf("P10.2: Get(%v) = %s, %d, %d", b, told(c), n, err)
		}
	}
}

func TestGetOfBytesChangedOneByOne(t *testing.T) {
	for _, c := range thatMay() {
		b := []byte(written(c) + "\x02b\x04\x00\x00")
		for i := range b {
			old := b[i]
			for x := range 256 {
				b[i] = byte(x)
				checkGet(t, b)
			}
			b[i] = old
		}
	}
}

// textErrors, valErrors and numberErrors are bytes that such a part refuses by
// ErrForm as soon as all of them are there, and by ErrMore ahead of that.
func textErrors() []string {
	return []string{"\x80\x00", "\x82\x00", "\x01", "\x03", numberForm(-64), numberForm(math.MinInt64),
		numberForm(1<<16 + 1), numberForm(math.MaxInt64), strings.Repeat("\x80", 9) + "\x02", strings.Repeat("\xff", 10)}
}

func valErrors() []string {
	l := []string{"\x06", "\x01", "\x80\x00", "\x82\x00", numberForm(9), numberForm(1 << 32), numberForm(1<<32 + 1), numberForm(math.MinInt64),
		strings.Repeat("\xff", 10), "\x02\x00\x00\x00\x00\x00\x00\x00\x01", "\x02\xff\xff\xff\xff\xff\xff\xff\xff",
		"\x04\x2a" + strings.Repeat("x", 21), "\x04" + textForm(strings.Repeat("x", 300))}
	for _, s := range textErrors() {
		l = append(l, "\x04"+s)
	}
	return l
}

func numberErrors() []string {
	l := []string{strings.Repeat("\x80", 9) + "\x02", strings.Repeat("\xff", 10)}
	for k := 1; k <= 9; k++ {
		l = append(l, strings.Repeat("\x80", k)+"\x00", strings.Repeat("\xff", k)+"\x00")
	}
	return l
}

// checkPart says that behind ahead the bytes of bad are refused at once,
// whatever follows, but not sooner.
func checkPart(t *testing.T, ahead, bad string) {
	t.Helper()
	cutOff(t, ahead+bad)
	for _, tail := range tails() {
		refused(t, ahead+bad+tail, api.ErrForm)
	}
}

// heads are Keys as they are written, those that may not be among them:
// whether they may be is asked last, so that each part behind them is read.
func heads() []string {
	return []string{"\x02k", "\x00", textForm(strings.Repeat("k", 16)), textForm(strings.Repeat("k", 17)), textForm(strings.Repeat("k", 300))}
}

func TestGetTellsTheErrorsOfTheKey(t *testing.T) {
	for _, bad := range textErrors() {
		checkPart(t, "", bad)
	}
	cutOff(t, textForm(strings.Repeat("k", 1<<16)))
}

func TestGetTellsTheErrorsOfVal(t *testing.T) {
	for _, head := range heads() {
		for _, bad := range valErrors() {
			checkPart(t, head, bad)
		}
	}
}

func TestGetTellsTheErrorsOfTxn(t *testing.T) {
	for _, head := range heads() {
		for _, v := range []api.Val{none(), float(1), text("two")} {
			for _, bad := range numberErrors() {
				checkPart(t, head+valForm(v), bad)
			}
		}
	}
}

func TestGetTellsTheErrorsOfNew(t *testing.T) {
	for _, head := range heads() {
		for _, v := range []api.Val{none(), float(1), text("two")} {
			for _, txn := range []int64{1, 5, 1 << 40, 1<<40 + 1, math.MaxInt64} {
				for _, bad := range valErrors() {
					checkPart(t, head+valForm(v)+numberForm(txn), bad)
				}
			}
		}
	}
}

// lateErrors are cells of which every part can be read, but that may not be.
func lateErrors() []Cell {
	l := []Cell{{Key: "a"}, {Key: strings.Repeat("k", 16)}, {}, {Txn: 1 << 41}}
	for _, k := range badKeys() {
		l = append(l, Cell{Key: k, Val: float(1)}, Cell{Key: k, Txn: 5}, Cell{Key: k, Val: text(""), Txn: 5, New: text("two")}, Cell{Key: k, Txn: -1})
	}
	for _, x := range badTxns() {
		l = append(l, Cell{Key: "a", Txn: x}, Cell{Key: "a", Val: float(1), Txn: x}, Cell{Key: "a", Val: text("two"), Txn: x, New: float(1)},
			Cell{Key: "a", Txn: x, New: text(strings.Repeat("x", 20))})
	}
	return l
}

func TestGetOfWhatMayNotBe(t *testing.T) {
	for _, c := range lateErrors() {
		checkPart(t, "", written(c))
	}
}

// Behind a Txn of 0 there is no New: whatever stands there is not the cell's.
func TestGetReadsNoNewWithoutATxn(t *testing.T) {
	c := Cell{Key: "k", Val: text("two")}
	s := written(c)
	for _, tail := range append(valErrors(), tails()...) {
		if got, n, err := Get([]byte(s + tail)); !same(got, c) || n != len(s) || err != api.OK {
			t.Errorf("P10.2: Get(%x and %x) = %s, %d, %d", s, tail, told(got), n, err)
		}
	}
}

func TestGetOfAnyBytes(t *testing.T) {
	for a := range 256 {
		checkGet(t, []byte{byte(a)})
		for b := range 256 {
			checkGet(t, []byte{byte(a), byte(b)})
			checkGet(t, []byte{2, 'k', byte(a), byte(b), 'x', 'y', 0, 2, 0, 0, 0, 0, 0, 0})
			checkGet(t, []byte{2, 'k', 4, 0, byte(a), byte(b), 0, 0, 0, 0, 0, 0, 0, 0, 0, 0})
			checkGet(t, []byte{2, 'k', 0, 2, byte(a), byte(b), 'x', 'y', 0x80, 0, 0, 0, 0, 0})
		}
	}
	s := source(1)
	for i := range 40000 {
		checkGet(t, s.bytes(i%60))
	}
}

// likely are bytes that often are a cell's, and else not far from one.
func likely(s *source) []byte {
	b := []byte(textForm(string(s.bytes(s.below(19)))))
	val := func() {
		switch s.below(5) {
		case 0:
			b = append(b, 0)
		case 1, 2:
			b = append(append(b, 2), s.bytes(8)...)
		case 3:
			b = append(append(b, 4), textForm(string(s.bytes(s.below(23))))...)
		case 4:
			b = append(b, valForm(goodVals()[s.below(len(goodVals()))])...)
		}
	}
	val()
	b = append(b, numberForm(int64(s.next())>>s.below(64))...)
	val()
	if s.below(3) == 0 {
		b = b[:s.below(len(b)+1)]
	}
	return b
}

func TestGetOfLikelyBytes(t *testing.T) {
	s := source(2)
	for range 60000 {
		checkGet(t, likely(&s))
	}
}

// What Get takes is what Put writes, and no other bytes are that cell's.
func TestGetTakesOnlyWhatPutWrites(t *testing.T) {
	s := source(3)
	taken := 0
	for range 60000 {
		b := likely(&s)
		c, n, err := Get(b)
		if err != api.OK {
			continue
		}
		taken++
		if !May(c) || !bytes.Equal(Put(nil, c), b[:n]) {
			t.Errorf("P10.2: Get(%x) = %s, %d, whose bytes are %x", b, told(c), n, Put(nil, c))
		}
	}
	if taken < 5000 {
		t.Errorf("only %d cells were taken", taken)
	}
}

func TestPutLeavesTheArgumentAlone(t *testing.T) {
	for _, c := range anyCells() {
		for _, length := range []int{0, 1, 5, 200} {
			room := bytes.Repeat([]byte{7}, 400)
			before := bytes.Clone(room)
			b := Put(room[:length], c)
			if !bytes.Equal(room, before) {
				t.Fatalf("P0.3: %s behind %d bytes: the argument or its spare room was written", told(c), length)
			}
			want := bytes.Clone(b)
			spoil(b)
			if !bytes.Equal(room, before) {
				t.Fatalf("P0.3: %s behind %d bytes: the answer shares the argument's memory", told(c), length)
			}
			b = Put(room[:length], c)
			spoil(room)
			if !bytes.Equal(b, want) {
				t.Fatalf("P0.3: %s behind %d bytes: the argument was kept", told(c), length)
			}
		}
	}
}

func TestAnswersShareNothing(t *testing.T) {
	for _, c := range thatMay() {
		for _, d := range thatMay() {
			head := Put(nil, c)
			a, b := Put(head, d), Put(head, d)
			want := written(c) + written(d)
			spoil(b)
			spoil(head)
			if string(a) != want {
				t.Fatalf("P0.3: two answers share memory: %s, %s", told(c), told(d))
			}
			if again := Put(Put(nil, c), d); string(again) != want {
				t.Fatalf("P0.3: what was written into an answer shows in another call: %s, %s", told(c), told(d))
			}
		}
	}
}

func TestGetLeavesTheArgumentAlone(t *testing.T) {
	inputs := append(append(valErrors(), textErrors()...), "", "\x02", "\x02k\x06", "\x02k\x04\x06tw")
	for _, c := range append(thatMay(), lateErrors()...) {
		inputs = append(inputs, written(c))
	}
	for _, in := range inputs {
		room := []byte(in + "\x01\x02\x03")
		c, n, err := Get(room[:len(in)])
		if string(room) != in+"\x01\x02\x03" {
			t.Fatalf("P0.3: Get(%.60x): the argument or its spare room was written", in)
		}
		name, val, fresh := strings.Clone(c.Key), strings.Clone(c.Val.S), strings.Clone(c.New.S)
		spoil(room)
		if c.Key != name || c.Val.S != val || c.New.S != fresh {
			t.Fatalf("P0.3: Get(%.60x): a text shares the argument's memory", in)
		}
		if again, m, e := Get([]byte(in)); !same(c, again) || n != m || err != e {
			t.Fatalf("P0.5: Get(%.60x): one call, two answers", in)
		}
	}
}
