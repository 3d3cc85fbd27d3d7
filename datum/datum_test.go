package datum

import (
	"bytes"
	"encoding/binary"
	"fmt"
	"math"
	"strings"
	"testing"

	"engross/api"
)

const (
	minusNought = uint64(1) << 63
	plusInf     = uint64(0x7ff0000000000000)
	minusInf    = uint64(0xfff0000000000000)
	oneNaN      = uint64(0x7ff8000000000000)
)

// source is a small generator, so that every run tries the same inputs.
type source uint64

func (s *source) next() uint64 {
	*s ^= *s << 13
	*s ^= *s >> 7
	*s ^= *s << 17
	return uint64(*s)
}

func (s *source) below(n int) int { return int(s.next() >> 8 % uint64(n)) }

func (s *source) bytes(n int) []byte {
	b := make([]byte, n)
	for i := range b {
		b[i] = byte(s.next() >> 32)
	}
	return b
}

func bitsOf(f float64) uint64 { return math.Float64bits(f) }

func of(bits uint64) float64 { return math.Float64frombits(bits) }

func text(n int) string { return strings.Repeat("x", n) }

// otherNaNs are those that are not the one that Clean answers.
func otherNaNs() []float64 {
	return []float64{of(oneNaN | 1), of(oneNaN | minusNought), of(plusInf | 1), of(minusInf | 1),
		of(plusInf | 1<<50), of(0x7fffffffffffffff), of(0xffffffffffffffff), of(0xfff8000000000001)}
}

func numbers() []float64 {
	return []float64{0, of(minusNought), 1, -1, 0.1, -2.5, 1e300, math.MaxFloat64, -math.MaxFloat64,
		math.SmallestNonzeroFloat64, -math.SmallestNonzeroFloat64, of(plusInf), of(minusInf), of(0x0123456789abcdef), of(0x8123456789abcdef)}
}

func shortTexts() []string {
	return []string{"", "a", "b", "ab", "\x00", "\x80", "\xff\x00\xfe", "Größe, 値", text(19), text(20),
		strings.Repeat("\x00", 20), strings.Repeat("\xff", 20)}
}

func longTexts() []string {
	return []string{text(21), text(22), text(63), text(64), text(255), text(256), text(276), strings.Repeat("\x00", 21), text(1 << 16)}
}

// thatMay are values that may be, no two of them the same.
func thatMay() []api.Val {
	l := []api.Val{{Kind: api.VNone}, {Kind: api.VFloat, F: of(oneNaN)}}
	for _, f := range numbers() {
		l = append(l, api.Val{Kind: api.VFloat, F: f})
	}
	for _, s := range shortTexts() {
		l = append(l, api.Val{Kind: api.VText, S: s})
	}
	return l
}

// thatMayNot break one rule each, or more.
func thatMayNot() []api.Val {
	l := []api.Val{}
	notNought := append(append(numbers()[1:], of(oneNaN)), otherNaNs()...)
	for _, f := range notNought {
		l = append(l, api.Val{F: f}, api.Val{Kind: api.VText, F: f}, api.Val{Kind: api.VText, F: f, S: "ab"}, api.Val{F: f, S: "ab"})
	}
	for _, f := range otherNaNs() {
		l = append(l, api.Val{Kind: api.VFloat, F: f}, api.Val{Kind: api.VFloat, F: f, S: "a"})
	}
	for _, s := range append(shortTexts()[1:], longTexts()...) {
		l = append(l, api.Val{S: s}, api.Val{Kind: api.VFloat, S: s}, api.Val{Kind: api.VFloat, F: 1, S: s}, api.Val{Kind: api.VFloat, F: of(oneNaN), S: s})
	}
	for _, s := range longTexts() {
		l = append(l, api.Val{Kind: api.VText, S: s}, api.Val{Kind: api.VText, F: 1, S: s})
	}
	for _, kind := range otherKinds() {
		l = append(l, api.Val{Kind: kind}, api.Val{Kind: kind, F: 1}, api.Val{Kind: kind, S: "a"})
	}
	return l
}

func otherKinds() []int {
	return []int{3, 4, 5, -1, -2, -3, 63, 64, 255, 256, 257, 258, 1 << 16, 1 << 32, 1<<32 + 1, 1<<32 + 2, math.MaxInt, math.MinInt, math.MinInt + 1, math.MinInt + 2}
}

// same holds two values against each other, bit by bit.
func same(v, w api.Val) bool {
	return v.Kind == w.Kind && bitsOf(v.F) == bitsOf(w.F) && v.S == w.S
}

// told is a value in plain letters, whatever its bytes.
func told(v api.Val) string {
	return fmt.Sprintf("{%d %x %.30q}", v.Kind, bitsOf(v.F), v.S)
}

// written is the chapter's form of a value that may be, made without the
// packages beneath.
func written(v api.Val) []byte {
	b := binary.AppendVarint(nil, int64(v.Kind))
	switch v.Kind {
	case api.VFloat:
		return binary.BigEndian.AppendUint64(b, place(v.F))
	case api.VText:
		return append(binary.AppendVarint(b, int64(len(v.S))), v.S...)
	}
	return b
}

func place(f float64) uint64 {
	switch {
	case f != f:
		return 0
	case math.Signbit(f):
		return ^bitsOf(f)
	}
	return bitsOf(f) | minusNought
}

// number reads what num.Get reads.
func number(b []byte) (int64, int, api.Errno) {
	if len(b) > 10 {
		b = b[:10]
	}
	n, k := binary.Varint(b)
	switch {
	case k < 0, k == 0 && len(b) == 10:
		return 0, 0, api.ErrForm
	case k == 0:
		return 0, 0, api.ErrMore
	case len(binary.AppendVarint(nil, n)) != k:
		return 0, 0, api.ErrForm
	}
	return n, k, api.OK
}

// wanted is what P4.1 asks of Get.
func wanted(b []byte) (api.Val, int, api.Errno) {
	kind, k, err := number(b)
	if err != api.OK {
		return api.Val{}, 0, err
	}
	rest := b[k:]
	switch kind {
	case 0:
		return api.Val{}, k, api.OK
	case 1:
		if len(rest) < 8 {
			return api.Val{}, 0, api.ErrMore
		}
		u := binary.BigEndian.Uint64(rest)
		f := of(^u)
		if u&minusNought != 0 {
			f = of(u ^ minusNought)
		}
		if u == 0 {
			f = of(oneNaN)
		} else if f != f {
			return api.Val{}, 0, api.ErrForm
		}
		return api.Val{Kind: 1, F: f}, k + 8, api.OK
	case 2:
		n, m, err := number(rest)
		if err != api.OK {
			return api.Val{}, 0, err
		}
		if n < 0 || n > 1<<16 {
			return api.Val{}, 0, api.ErrForm
		}
		if m+int(n) > len(rest) {
			return api.Val{}, 0, api.ErrMore
		}
		if n > 20 {
			return api.Val{}, 0, api.ErrForm
		}
		return api.Val{Kind: 2, S: string(rest[m : m+int(n)])}, k + m + int(n), api.OK
	}
	return api.Val{}, 0, api.ErrForm
}

func checkGet(t *testing.T, b []byte) {
	t.Helper()
	wv, wn, we := wanted(b)
	if v, n, err := Get(b); !same(v, wv) || n != wn || err != we {
		t.Errorf("P4.1: Get(%.40x) = %s, %d, %d, want %s, %d, %d", b, told(v), n, err, told(wv), wn, we)
	}
}

func refused(t *testing.T, b []byte, want api.Errno) {
	t.Helper()
	if v, n, err := Get(b); !same(v, api.Val{}) || n != 0 || err != want {
		t.Errorf("P4.1: Get(%.40x) = %s, %d, %d, want error %d", b, told(v), n, err, want)
	}
}

func spoil(b []byte) {
	b = b[:cap(b)]
	for i := range b {
		b[i] ^= 0xa5
	}
}

func TestMay(t *testing.T) {
	for _, v := range thatMay() {
		if !May(v) {
			t.Errorf("P4.1: May(%s) is false", told(v))
		}
	}
	for _, v := range thatMayNot() {
		if May(v) {
			t.Errorf("P4.1: May(%s) is true", told(v))
		}
	}
}

func TestMayOfTextsByLength(t *testing.T) {
	for n := range 300 {
		for _, c := range []string{"x", "\x00", "\xff"} {
			s := strings.Repeat(c, n)
			if got := May(api.Val{Kind: api.VText, S: s}); got != (n <= 20) {
				t.Errorf("P4.1: May of a text of %d bytes: %v", n, got)
			}
			if got := May(api.Val{S: s}); got != (n == 0) {
				t.Errorf("P4.1: May of none with a text of %d bytes: %v", n, got)
			}
			if got := May(api.Val{Kind: api.VFloat, F: 3, S: s}); got != (n == 0) {
				t.Errorf("P4.1: May of a float with a text of %d bytes: %v", n, got)
			}
		}
	}
	// It is the bytes that are counted, not the runes.
	if May(api.Val{Kind: api.VText, S: strings.Repeat("値", 7)}) {
		t.Error("P4.1: May of 7 runes of 21 bytes")
	}
}

func TestMayOfAnyFloat(t *testing.T) {
	s := source(1)
	for i := range 20000 {
		u := s.next()
		if i%2 == 0 {
			u = u&minusNought | plusInf | u>>(12+s.below(52))
		}
		f := of(u)
		if got := May(api.Val{Kind: api.VFloat, F: f}); got != (f == f || u == oneNaN) {
			t.Errorf("P4.1: May of the float %x: %v", u, got)
		}
		if May(api.Val{F: f}) != (u == 0) || May(api.Val{Kind: api.VText, F: f}) != (u == 0) {
			t.Errorf("P4.1: May of none, or of a text, with the float %x", u)
		}
	}
}

func TestEqOfThoseThatMay(t *testing.T) {
	l := thatMay()
	for i, a := range l {
		for j, b := range l {
			if got := Eq(a, b); got != (i == j) {
				t.Errorf("P4.1: Eq(%s, %s) = %v", told(a), told(b), got)
			}
		}
	}
}

func TestEqOfAnyTwo(t *testing.T) {
	l := append(thatMay(), thatMayNot()...)
	for _, a := range l {
		for _, b := range l {
			want := a.Kind == b.Kind && a.S == b.S && (bitsOf(a.F) == bitsOf(b.F) || a.F != a.F && b.F != b.F)
			if got := Eq(a, b); got != want {
				t.Errorf("P4.1: Eq(%s, %s) = %v", told(a), told(b), got)
			}
		}
	}
}

func TestKnownBytes(t *testing.T) {
	for _, c := range []struct {
		v    api.Val
		want string
	}{
		{api.Val{}, "\x00"},
		{api.Val{Kind: api.VFloat}, "\x02\x80\x00\x00\x00\x00\x00\x00\x00"},
		{api.Val{Kind: api.VFloat, F: of(minusNought)}, "\x02\x7f\xff\xff\xff\xff\xff\xff\xff"},
		{api.Val{Kind: api.VFloat, F: of(oneNaN)}, "\x02\x00\x00\x00\x00\x00\x00\x00\x00"},
		{api.Val{Kind: api.VFloat, F: of(minusInf)}, "\x02\x00\x0f\xff\xff\xff\xff\xff\xff"},
		{api.Val{Kind: api.VFloat, F: -1}, "\x02\x40\x0f\xff\xff\xff\xff\xff\xff"},
		{api.Val{Kind: api.VFloat, F: 1}, "\x02\xbf\xf0\x00\x00\x00\x00\x00\x00"},
		{api.Val{Kind: api.VText}, "\x04\x00"},
		{api.Val{Kind: api.VText, S: "ab"}, "\x04\x04ab"},
		{api.Val{Kind: api.VText, S: "\xff\x00"}, "\x04\x04\xff\x00"},
		{api.Val{Kind: api.VText, S: text(20)}, "\x04\x28" + text(20)},
	} {
		if got := Put(nil, c.v); string(got) != c.want {
			t.Errorf("P4.1: Put(%s) = %x, want %x", told(c.v), got, c.want)
		}
		if v, n, err := Get([]byte(c.want)); !same(v, c.v) || n != len(c.want) || err != api.OK {
			t.Errorf("P4.1: Get(%x) = %s, %d, %d, want %s", c.want, told(v), n, err, told(c.v))
		}
	}
}

func TestPutKeepsWhatStandsAhead(t *testing.T) {
	for _, head := range []string{"", "x", "\x80\x80", "\x02", text(300)} {
		for _, v := range thatMay() {
			if got := Put([]byte(head), v); string(got) != head+string(written(v)) {
				t.Errorf("P4.1: Put behind %d bytes, %s = %x", len(head), told(v), got)
			}
		}
	}
}

func TestGetAnswersWhatPutWrote(t *testing.T) {
	tails := []string{"", "\x00", "\x01", "\x04\x00", "\x80", text(21), strings.Repeat("\xff", 12)}
	for _, v := range thatMay() {
		n := len(written(v))
		for _, tail := range tails {
			got, k, err := Get(append(Put(nil, v), tail...))
			if !same(got, v) || k != n || err != api.OK {
				t.Errorf("P4.1: Get(Put(%s), %x) = %s, %d, %d", told(v), tail, told(got), k, err)
			}
		}
	}
}

func TestGetOfAList(t *testing.T) {
	b := []byte{}
	for _, v := range thatMay() {
		b = Put(b, v)
	}
	for _, v := range thatMay() {
		got, n, err := Get(b)
		if !same(got, v) || err != api.OK {
			t.Fatalf("P4.1: %s, %d, want %s", told(got), err, told(v))
		}
		b = b[n:]
	}
	refused(t, b, api.ErrMore)
}

func TestGetOfACutValue(t *testing.T) {
	for _, v := range thatMay() {
		b := Put(nil, v)
		for n := range b {
			// Both with the rest in the spare room and without.
			refused(t, b[:n], api.ErrMore)
			refused(t, bytes.Clone(b[:n]), api.ErrMore)
		}
	}
}

func TestGetOfAnotherKind(t *testing.T) {
	for _, kind := range otherKinds() {
		b := binary.AppendVarint(nil, int64(kind))
		for n := range b {
			refused(t, b[:n], api.ErrMore)
		}
		for _, tail := range []string{"", "\x00", "\x04ab", "\x80", "\x01", strings.Repeat("\x00", 8), text(30)} {
			refused(t, append(bytes.Clone(b), tail...), api.ErrForm)
		}
	}
}

func TestGetOfFloatsThatAreNone(t *testing.T) {
	low, high := ^minusInf, plusInf^minusNought
	bad := []uint64{1, 2, low - 1, high + 1, math.MaxUint64, oneNaN ^ minusNought, ^(oneNaN | minusNought)}
	for i := range 52 {
		bad = append(bad, 1<<i, low-1<<i, high+1<<i, math.MaxUint64-1<<i)
	}
	for _, u := range bad {
		b := binary.BigEndian.AppendUint64([]byte{2}, u)
		for n := range b {
			refused(t, b[:n], api.ErrMore)
		}
		refused(t, b, api.ErrForm)
		refused(t, append(b, 7), api.ErrForm)
	}
}

func TestGetOfTextsThatAreTooLong(t *testing.T) {
	for _, s := range longTexts() {
		b := append(binary.AppendVarint([]byte{4}, int64(len(s))), s...)
		refused(t, b, api.ErrForm)
		refused(t, append(bytes.Clone(b), 7), api.ErrForm)
		// While it isn't all there, that is what is told.
		for _, n := range []int{0, 1, 2, len(b) / 2, len(b) - 2, len(b) - 1} {
			refused(t, b[:n], api.ErrMore)
		}
	}
}

func TestGetOfTextsThatNumRefuses(t *testing.T) {
	plenty := make([]byte, 1<<16+2)
	for _, n := range []int64{-1, -2, -20, -64, math.MinInt64, 1<<16 + 1, 1 << 32, math.MaxInt64} {
		b := binary.AppendVarint([]byte{4}, n)
		refused(t, b, api.ErrForm)
		refused(t, append(b, plenty...), api.ErrForm)
		for k := range b {
			refused(t, b[:k], api.ErrMore)
		}
	}
	for _, s := range []string{"\x04\x80\x00", "\x04\x84\x00ab", "\x04\xff\xff\xff\xff\xff\xff\xff\xff\xff\x02"} {
		refused(t, []byte(s), api.ErrForm)
		refused(t, append([]byte(s), plenty...), api.ErrForm)
	}
}

func TestGetOfKindsThatNumRefuses(t *testing.T) {
	for _, first := range []byte{0x80, 0x82, 0x84, 0xff} {
		for k := range 9 {
			b := append([]byte{first}, bytes.Repeat([]byte{0x80}, k)...)
			refused(t, b, api.ErrMore)
			refused(t, append(b, 0), api.ErrForm)
			refused(t, append(b, 0, 4, 'a', 'b'), api.ErrForm)
		}
		nine := append([]byte{first}, bytes.Repeat([]byte{0x80}, 8)...)
		for _, c := range []byte{2, 3, 0x7f, 0x80, 0xff} {
			refused(t, append(nine, c), api.ErrForm)
		}
	}
}

func TestGetOfAnyBytes(t *testing.T) {
	for a := range 256 {
		checkGet(t, []byte{byte(a)})
		for b := range 256 {
			checkGet(t, []byte{byte(a), byte(b)})
			checkGet(t, []byte{byte(a), byte(b), 'x', 0x80, 0, 0, 0, 0, 0, 0})
			checkGet(t, append([]byte{4, byte(a), byte(b)}, text(b)...))
		}
	}
	s := source(2)
	for i := range 40000 {
		b := s.bytes(i % 40)
		checkGet(t, b)
		if len(b) > 1 {
			b[0], b[1] = byte(s.below(8)), byte(s.below(64))
		}
		checkGet(t, b)
		if len(b) > 2 {
			b[1], b[2] = byte(s.below(2)*255), byte(s.below(2)*255)
		}
		checkGet(t, b)
	}
}

// What Get takes is what Put writes, and no other bytes are that value's.
func TestGetTakesOnlyWhatPutWrites(t *testing.T) {
	s := source(3)
	taken := 0
	for range 40000 {
		b := s.bytes(2 + s.below(30))
		b[0], b[1] = byte(s.below(6)), byte(s.below(48))
		v, n, err := Get(b)
		if err != api.OK {
			continue
		}
		taken++
		if !May(v) || !bytes.Equal(Put(nil, v), b[:n]) {
			t.Errorf("P4.1: Get(%x) = %s, %d, whose bytes are %x", b, told(v), n, Put(nil, v))
		}
	}
	if taken < 1000 {
		t.Errorf("only %d values were taken", taken)
	}
}

func TestNilIsAsEmpty(t *testing.T) {
	for _, b := range [][]byte{nil, {}, make([]byte, 0, 9)} {
		refused(t, b, api.ErrMore)
		for _, v := range thatMay() {
			if got := Put(b, v); !bytes.Equal(got, written(v)) {
				t.Errorf("P0.4: Put(%v, %s) = %x", b, told(v), got)
			}
		}
	}
}

// Of a value that may not be the chapter tells no bytes; still the call ends,
// and leaves what it was handed alone.
func TestPutOfWhatMayNotBe(t *testing.T) {
	for _, v := range thatMayNot() {
		room := bytes.Repeat([]byte{7}, 400)
		before := bytes.Clone(room)
		b := Put(room[:5], v)
		if !bytes.Equal(b, Put(room[:5], v)) {
			t.Errorf("P0.5: Put(%s): two answers", told(v))
		}
		spoil(b)
		if !bytes.Equal(room, before) {
			t.Errorf("P0.3: Put(%s): the argument was written", told(v))
		}
	}
}

func TestPutLeavesTheArgumentAlone(t *testing.T) {
	for _, v := range thatMay() {
		for _, length := range []int{0, 1, 5, 200} {
			room := bytes.Repeat([]byte{7}, 400)
			before := bytes.Clone(room)
			b := Put(room[:length], v)
			if !bytes.Equal(room, before) {
				t.Fatalf("P0.3: %s behind %d bytes: the argument or its spare room was written", told(v), length)
			}
			spoil(b)
			if !bytes.Equal(room, before) {
				t.Fatalf("P0.3: %s behind %d bytes: the answer shares the argument's memory", told(v), length)
			}
			b = Put(room[:length], v)
			want := bytes.Clone(b)
			spoil(room)
			if !bytes.Equal(b, want) {
				t.Fatalf("P0.3: %s behind %d bytes: the argument was kept", told(v), length)
			}
		}
	}
}

func TestAnswersShareNothing(t *testing.T) {
	for _, v := range thatMay() {
		for _, w := range thatMay() {
			head := Put(nil, v)
			a := Put(head, w)
			want := bytes.Clone(a)
			b := Put(head, w)
			if !bytes.Equal(a, b) {
				t.Fatal("P0.5: one call, two answers")
			}
			spoil(b)
			spoil(head)
			if !bytes.Equal(a, want) {
				t.Fatal("P0.3: two answers share memory")
			}
			if again := Put(Put(nil, v), w); !bytes.Equal(again, want) {
				t.Fatal("P0.3: what was written into an answer shows in another call")
			}
		}
	}
}

func TestGetLeavesTheArgumentAlone(t *testing.T) {
	inputs := [][]byte{{}, {0x80}, {0x80, 0}, {6}, {2, 0, 0}, {2, 0, 0, 0, 0, 0, 0, 0, 1}, {4, 1}, {4, 6, 'a'}, []byte("\x04\x2a" + text(21))}
	for _, v := range thatMay() {
		inputs = append(inputs, Put(nil, v))
	}
	for _, in := range inputs {
		room := append(bytes.Clone(in), 1, 2, 3)
		before := bytes.Clone(room)
		v, n, err := Get(room[:len(in)])
		if !bytes.Equal(room, before) {
			t.Fatalf("P0.3: Get(%x): the argument or its spare room was written", in)
		}
		want := strings.Clone(v.S)
		spoil(room)
		if v.S != want {
			t.Fatalf("P0.3: Get(%x): the text shares the argument's memory", in)
		}
		if again, m, e := Get(in); !same(v, again) || n != m || err != e {
			t.Fatalf("P0.5: Get(%x): one call, two answers", in)
		}
	}
}
