package num

import (
	"bytes"
	"math"
	"math/big"
	"strings"
	"testing"

	"engross/api"
)

// source is a small generator, so that every run tries the same inputs.
type source uint64

func (s *source) next() uint64 {
	*s ^= *s << 13
	*s ^= *s >> 7
	*s ^= *s << 17
	return uint64(*s)
}

func (s *source) bytes(n int) []byte {
	b := make([]byte, n)
	for i := range b {
		b[i] = byte(s.next() >> 32)
	}
	return b
}

// wantBytes says P1.1's form of a number in big numbers, which cannot wrap.
func wantBytes(n int64) []byte {
	x := new(big.Int).Mul(big.NewInt(2), big.NewInt(n))
	if n < 0 {
		x.Neg(x).Sub(x, big.NewInt(1))
	}
	digits, base, rest := []byte{}, big.NewInt(128), new(big.Int)
	for {
		x.DivMod(x, base, rest)
		if x.Sign() == 0 {
			return append(digits, byte(rest.Int64()))
		}
		digits = append(digits, byte(rest.Int64()+128))
	}
}

// wantNumber is what P1.1 asks of Get: it finds the last byte first, reads a
// big number, and writes it again to see whether fewer bytes would do.
func wantNumber(b []byte) (int64, int, api.Errno) {
	last := 0
	for last < len(b) && b[last] >= 128 {
		last++
	}
	if last >= 9 && len(b) > 9 && b[9] > 1 {
		return 0, 0, api.ErrForm
	}
	if last == len(b) {
		return 0, 0, api.ErrMore
	}
	x := new(big.Int)
	for i := last; i >= 0; i-- {
		x.Mul(x, big.NewInt(128)).Add(x, big.NewInt(int64(b[i]%128)))
	}
	odd := x.Bit(0) == 1
	x.Rsh(x, 1)
	if odd {
		x.Neg(x).Sub(x, big.NewInt(1))
	}
	if !x.IsInt64() || !bytes.Equal(wantBytes(x.Int64()), b[:last+1]) {
		return 0, 0, api.ErrForm
	}
	return x.Int64(), last + 1, api.OK
}

// wantText is what P1.1 asks of GetText.
func wantText(b []byte) (string, int, api.Errno) {
	n, k, err := wantNumber(b)
	if err != api.OK {
		return "", 0, err
	}
	if n < 0 || n > 65536 {
		return "", 0, api.ErrForm
	}
	if int(n) > len(b)-k {
		return "", 0, api.ErrMore
	}
	return string(b[k : k+int(n)]), k + int(n), api.OK
}

// someNumbers has each place at which a number becomes a byte longer, both
// ends of int64, and others in between.
func someNumbers() []int64 {
	l := []int64{0, 1, -1, 2, -2, 3, 100, -100, 1000000, -1000000, math.MaxInt64, math.MinInt64}
	for shift := range 63 {
		for d := int64(-2); d <= 2; d++ {
			l = append(l, int64(1)<<shift+d, -int64(1)<<shift+d)
		}
	}
	l = append(l, math.MaxInt64-1, math.MaxInt64-2, math.MinInt64+1, math.MinInt64+2)
	s := source(1)
	for i := range 2000 {
		l = append(l, int64(s.next())>>(i%64))
	}
	return l
}

func someTexts() []string {
	return []string{"", "a", "abc", "\x00", "\x80\xff\x00\xfe", "Größe, 値",
		strings.Repeat("x", 63), strings.Repeat("x", 64), strings.Repeat("x", 8191), strings.Repeat("x", 8192),
		strings.Repeat("y", 1<<16-1), strings.Repeat("y", 1<<16)}
}

func checkGet(t *testing.T, b []byte) {
	t.Helper()
	wn, wk, we := wantNumber(b)
	if n, k, err := Get(b); n != wn || k != wk || err != we {
		t.Errorf("P1.1: Get(%x) = %d, %d, %d, want %d, %d, %d", b, n, k, err, wn, wk, we)
	}
}

func checkGetText(t *testing.T, b []byte) {
	t.Helper()
	ws, wk, we := wantText(b)
	if s, k, err := GetText(b); s != ws || k != wk || err != we {
		t.Errorf("P1.1: GetText(%.40x): %d bytes, %d, %d, want %d bytes, %d, %d", b, len(s), k, err, len(ws), wk, we)
	}
}

func refused(t *testing.T, b []byte, want api.Errno) {
	t.Helper()
	if n, k, err := Get(b); n != 0 || k != 0 || err != want {
		t.Errorf("P1.1: Get(%x) = %d, %d, %d, want error %d", b, n, k, err, want)
	}
}

func refusedText(t *testing.T, b []byte, want api.Errno) {
	t.Helper()
	if s, k, err := GetText(b); s != "" || k != 0 || err != want {
		t.Errorf("P1.1: GetText(%.40x): %d bytes, %d, %d, want error %d", b, len(s), k, err, want)
	}
}

func TestPutWritesThePlainForm(t *testing.T) {
	for _, c := range []struct {
		n    int64
		want string
	}{
		{0, "\x00"}, {-1, "\x01"}, {1, "\x02"}, {-2, "\x03"}, {63, "\x7e"}, {-64, "\x7f"},
		{64, "\x80\x01"}, {-65, "\x81\x01"}, {8191, "\xfe\x7f"}, {-8192, "\xff\x7f"}, {8192, "\x80\x80\x01"},
		{math.MaxInt64, "\xfe\xff\xff\xff\xff\xff\xff\xff\xff\x01"},
		{math.MinInt64, "\xff\xff\xff\xff\xff\xff\xff\xff\xff\x01"},
	} {
		if b := Put(nil, c.n); string(b) != c.want {
			t.Errorf("P1.1: Put(nil, %d) = %x, want %x", c.n, b, c.want)
		}
	}
}

func TestPutKeepsWhatStandsAhead(t *testing.T) {
	for _, head := range []string{"", "x", "\x80\x80", strings.Repeat("h", 300)} {
		for _, n := range someNumbers() {
			if b := Put([]byte(head), n); string(b) != head+string(wantBytes(n)) {
				t.Errorf("P1.1: Put of %d bytes and %d = %x", len(head), n, b)
			}
		}
	}
}

func TestGetAnswersWhatPutWrote(t *testing.T) {
	for _, n := range someNumbers() {
		b := Put(nil, n)
		for _, tail := range []string{"", "\x00", "\x01", "\x80", "\xff\xff\xff\xff\xff\xff\xff\xff\xff\xff\xff"} {
			if x, k, err := Get(append(Put(nil, n), tail...)); x != n || k != len(b) || err != api.OK {
				t.Errorf("P1.1: Get(Put(%d), %x) = %d, %d, %d", n, tail, x, k, err)
			}
		}
	}
}

func TestGetOfACutNumber(t *testing.T) {
	for _, n := range someNumbers() {
		b := Put(nil, n)
		for k := range b {
			refused(t, b[:k], api.ErrMore)
		}
	}
	for k := range 10 {
		refused(t, bytes.Repeat([]byte{0x80}, k), api.ErrMore)
		refused(t, bytes.Repeat([]byte{0xff}, k), api.ErrMore)
	}
}

func TestGetOfANumberLongerThanNeeded(t *testing.T) {
	for _, fill := range []byte{0x80, 0x81, 0xff} {
		for k := 1; k <= 9; k++ {
			b := append(bytes.Repeat([]byte{fill}, k), 0)
			refused(t, b, api.ErrForm)
			refused(t, append(b, 1), api.ErrForm)
		}
	}
}

func TestGetOfATenthByteAboveOne(t *testing.T) {
	for _, fill := range []byte{0x80, 0xff} {
		for c := 2; c < 256; c++ {
			for _, tail := range []string{"", "\x00", "\x01", "\x80", "\xff\xff\xff"} {
				b := append(bytes.Repeat([]byte{fill}, 9), byte(c))
				refused(t, append(b, tail...), api.ErrForm)
				refusedText(t, append(b, tail...), api.ErrForm)
			}
		}
	}
	b := append(bytes.Repeat([]byte{0x80}, 9), 1)
	if n, k, err := Get(b); n != 1<<62 || k != 10 || err != api.OK {
		t.Errorf("P1.1: Get(%x) = %d, %d, %d", b, n, k, err)
	}
}

func TestGetOfAnyBytes(t *testing.T) {
	for a := range 256 {
		checkGet(t, []byte{byte(a)})
		for b := range 256 {
			checkGet(t, []byte{byte(a), byte(b)})
		}
	}
	s := source(2)
	for i := range 20000 {
		b := s.bytes(i % 14)
		checkGet(t, b)
		for j := range min(len(b), int(s.next()%12)) {
			b[j] |= 128
		}
		checkGet(t, b)
	}
}

func TestTextsThereAndBack(t *testing.T) {
	for _, s := range someTexts() {
		for _, head := range []string{"", "x", "\x80\x80"} {
			b := PutText([]byte(head), s)
			if string(b) != head+string(wantBytes(int64(len(s))))+s {
				t.Errorf("P1.1: PutText of %d bytes and %d: %d bytes", len(head), len(s), len(b))
			}
			want := len(b) - len(head)
			for _, tail := range []string{"", "\x00", "tail"} {
				got, k, err := GetText(append(PutText(nil, s), tail...))
				if got != s || k != want || err != api.OK {
					t.Errorf("P1.1: GetText of %d bytes: %d bytes, %d, %d", len(s), len(got), k, err)
				}
			}
		}
	}
}

func TestGetTextOfACutText(t *testing.T) {
	for _, s := range []string{"", "a", "abc", strings.Repeat("x", 64), strings.Repeat("x", 8192)} {
		b := PutText(nil, s)
		for k := range b {
			refusedText(t, b[:k], api.ErrMore)
		}
	}
	b := PutText(nil, strings.Repeat("y", 1<<16))
	for _, k := range []int{1, 2, 3, 4, len(b) - 2, len(b) - 1} {
		refusedText(t, b[:k], api.ErrMore)
	}
}

func TestGetTextOfALengthOutOfBounds(t *testing.T) {
	plenty := bytes.Repeat([]byte{'z'}, 1<<16+2)
	for _, n := range []int64{-1, -2, -64, -65, -1 << 16, math.MinInt64, 1<<16 + 1, 1<<16 + 2, 1 << 17, 1 << 31, 1 << 32, 1 << 62, math.MaxInt64} {
		refusedText(t, Put(nil, n), api.ErrForm)
		refusedText(t, append(Put(nil, n), plenty...), api.ErrForm)
	}
	// PutText has no bound of its own.
	long := strings.Repeat("y", 1<<16+1)
	b := PutText(nil, long)
	if string(b) != string(wantBytes(1<<16+1))+long {
		t.Errorf("P1.1: PutText of %d bytes: %d bytes", len(long), len(b))
	}
	refusedText(t, b, api.ErrForm)
	for k := 1; k <= 9; k++ {
		refusedText(t, append(append(bytes.Repeat([]byte{0x81}, k), 0), plenty...), api.ErrForm)
	}
}

func TestGetTextOfAnyBytes(t *testing.T) {
	for a := range 256 {
		checkGetText(t, []byte{byte(a)})
		for b := range 256 {
			checkGetText(t, []byte{byte(a), byte(b)})
			checkGetText(t, []byte{byte(a), byte(b), 0x05, 0x80})
		}
	}
	s := source(3)
	for i := range 20000 {
		checkGetText(t, s.bytes(i%200))
	}
}

func TestNilIsAsEmpty(t *testing.T) {
	for _, b := range [][]byte{nil, {}} {
		refused(t, b, api.ErrMore)
		refusedText(t, b, api.ErrMore)
		if got := Put(b, 7); string(got) != "\x0e" {
			t.Errorf("P0.4: Put(%v, 7) = %x", b, got)
		}
		if got := PutText(b, ""); string(got) != "\x00" {
			t.Errorf("P0.4: PutText(%v, \"\") = %x", b, got)
		}
	}
}

// puts are the calls that answer lists, at numbers and texts of all lengths.
func puts() []func([]byte) []byte {
	l := []func([]byte) []byte{}
	for _, n := range []int64{0, 1, -1, 64, math.MaxInt64, math.MinInt64} {
		l = append(l, func(b []byte) []byte { return Put(b, n) })
	}
	for _, s := range []string{"", "abc", strings.Repeat("x", 100)} {
		l = append(l, func(b []byte) []byte { return PutText(b, s) })
	}
	return l
}

func spoil(b []byte) {
	b = b[:cap(b)]
	for i := range b {
		b[i] ^= 0xa5
	}
}

func TestPutsLeaveTheArgumentAlone(t *testing.T) {
	for _, put := range puts() {
		for _, length := range []int{0, 1, 5, 200} {
			room := bytes.Repeat([]byte{7}, 400)
			before := bytes.Clone(room)
			b := put(room[:length])
			if !bytes.Equal(room, before) {
				t.Fatalf("P0.3: %d bytes: the argument or its spare room was written", length)
			}
			spoil(b)
			if !bytes.Equal(room, before) {
				t.Fatalf("P0.3: %d bytes: the answer shares the argument's memory", length)
			}
			b = put(room[:length])
			want := bytes.Clone(b)
			spoil(room)
			if !bytes.Equal(b, want) {
				t.Fatalf("P0.3: %d bytes: the argument was kept", length)
			}
		}
	}
}

func TestAnswersShareNothing(t *testing.T) {
	for _, first := range puts() {
		for _, second := range puts() {
			head := first(nil)
			a := second(head)
			want := bytes.Clone(a)
			b := second(head)
			if !bytes.Equal(a, b) {
				t.Fatal("P0.5: one call, two answers")
			}
			spoil(b)
			spoil(head)
			if !bytes.Equal(a, want) {
				t.Fatal("P0.3: two answers share memory")
			}
			if again := second(first(nil)); !bytes.Equal(again, want) {
				t.Fatal("P0.3: what was written into an answer shows in another call")
			}
		}
	}
}

func TestGetsLeaveTheArgumentAlone(t *testing.T) {
	inputs := [][]byte{Put(nil, -70), PutText(nil, "abc"), PutText(nil, strings.Repeat("x", 1<<16)),
		{0x80}, {0x80, 0x00}, {0x01}, {0x06, 'a'}, bytes.Repeat([]byte{0xff}, 12)}
	for _, in := range inputs {
		room := append(bytes.Clone(in), 1, 2, 3)
		before := bytes.Clone(room)
		Get(room[:len(in)])
		s, _, _ := GetText(room[:len(in)])
		if !bytes.Equal(room, before) {
			t.Fatalf("P0.3: %.20x: the argument or its spare room was written", in)
		}
		want := strings.Clone(s)
		spoil(room)
		if s != want {
			t.Fatalf("P0.3: %.20x: the text shares the argument's memory", in)
		}
	}
}

func TestGetsDoNotLookIntoSpareRoom(t *testing.T) {
	number := Put(nil, math.MaxInt64)
	text := PutText(nil, "abc")
	for k := range number {
		refused(t, number[:k], api.ErrMore)
	}
	for k := range text {
		refusedText(t, text[:k], api.ErrMore)
	}
	nine := append(bytes.Repeat([]byte{0xff}, 9), 0xff)
	refused(t, nine[:9], api.ErrMore)
}
