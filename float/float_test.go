package float

import (
	"bytes"
	"cmp"
	"encoding/binary"
	"math"
	"math/big"
	"slices"
	"testing"
)

const (
	minusNought = uint64(1) << 63
	plusInf     = uint64(0x7ff0000000000000)
	minusInf    = uint64(0xfff0000000000000)
	oneNaN      = uint64(0x7ff8000000000000)
)

// source is a small generator, so that every run tries the same inputs.
type source uint64

func (s *source) next() uint64 {
	*s ^= *s << 13
	*s ^= *s >> 7
	*s ^= *s << 17
	return uint64(*s)
}

func (s *source) below(n int) int { return int(s.next() >> 8 % uint64(n)) }

func bitsOf(f float64) uint64 { return math.Float64bits(f) }

func of(bits uint64) float64 { return math.Float64frombits(bits) }

// someNaNs are quiet and signalling ones, of both signs.
func someNaNs() []float64 {
	l := []float64{math.NaN(), of(oneNaN)}
	for i := range 52 {
		l = append(l, of(plusInf|1<<i), of(minusInf|1<<i))
	}
	for _, low := range []uint64{3, 0x7ffffffffffff, 0x8000000000001, 0xfffffffffffff, 0xffffffffffffe, 0xdeadbeef} {
		l = append(l, of(plusInf|low), of(minusInf|low))
	}
	return l
}

// inOrder are floats of different places, the first ahead of the second and so
// on, as the chapter's words put them.
func inOrder() []float64 {
	above := []float64{
		math.SmallestNonzeroFloat64, 2 * math.SmallestNonzeroFloat64, 3 * math.SmallestNonzeroFloat64,
		of(0x000ffffffffffffe), of(0x000fffffffffffff), of(0x0010000000000000), of(0x0010000000000001),
		1e-300, 1e-10, 0.1, 0.25, 0.3, math.Nextafter(0.5, 0), 0.5, math.Nextafter(0.5, 1),
		math.Nextafter(1, 0), 1, math.Nextafter(1, 2), 1.5, 2, 3, 10, 127, 128, 255, 256, 257, 65535, 65536,
		1<<31 - 1, 1 << 31, 1 << 32, 1<<53 - 1, 1 << 53, 1<<53 + 2, 1 << 62, 1 << 63, 1e100, 1e300,
		math.Nextafter(math.MaxFloat64, 0), math.MaxFloat64, math.Inf(1),
	}
	l := []float64{math.NaN()}
	for _, f := range slices.Backward(above) {
		l = append(l, -f)
	}
	l = append(l, of(minusNought), 0)
	return append(l, above...)
}

func anyFloats(seed source, n int) []float64 {
	l := make([]float64, n)
	for i := range l {
		switch seed.below(4) {
		case 0:
			l[i] = of(seed.next())
		case 1:
			l[i] = float64(seed.below(2000)-1000) / 8
		case 2:
			l[i] = of(seed.next()&(minusNought|7) | uint64(seed.below(2048))<<52)
		default:
			l[i] = of(seed.next() & minusNought)
		}
	}
	return l
}

// someFloats are many of all kinds, NaNs among them.
func someFloats() []float64 {
	return slices.Concat(inOrder(), someNaNs(), anyFloats(1, 150))
}

// stands compares two floats as the chapter's words put them, by what they
// are and not by their bits.
func stands(a, b float64) int {
	switch {
	case a != a || b != b:
		return cmp.Compare(b2i(a == a), b2i(b == b))
	case a == 0 && b == 0:
		return cmp.Compare(b2i(!math.Signbit(a)), b2i(!math.Signbit(b)))
	}
	return new(big.Float).SetFloat64(a).Cmp(new(big.Float).SetFloat64(b))
}

func b2i(b bool) int {
	if b {
		return 1
	}
	return 0
}

// written is the chapter's form of Bytes, word by word.
func written(f float64) []byte {
	if f != f {
		return make([]byte, 8)
	}
	b := binary.BigEndian.AppendUint64(nil, bitsOf(f))
	if math.Signbit(f) {
		for i := range b {
			b[i] = ^b[i]
		}
		return b
	}
	b[0] ^= 0x80
	return b
}

func spoil(b []byte) {
	b = b[:cap(b)]
	for i := range b {
		b[i] ^= 0xa5
	}
}

func TestCleanOfNumbers(t *testing.T) {
	for _, f := range someFloats() {
		if f != f {
			continue
		}
		if got := Clean(f); bitsOf(got) != bitsOf(f) {
			t.Errorf("P3.1: Clean(%x) = %x", bitsOf(f), bitsOf(got))
		}
	}
}

func TestCleanOfNaNs(t *testing.T) {
	for _, f := range someNaNs() {
		if got := Clean(f); bitsOf(got) != oneNaN {
			t.Errorf("P3.1: Clean(%x) = %x", bitsOf(f), bitsOf(got))
		}
		if got := Clean(Clean(f)); bitsOf(got) != oneNaN {
			t.Errorf("P3.1: Clean(Clean(%x)) = %x", bitsOf(f), bitsOf(got))
		}
	}
}

func TestOrderOfTheNamed(t *testing.T) {
	l := inOrder()
	for i, a := range l {
		for j, b := range l {
			if got := Less(a, b); got != (i < j) {
				t.Errorf("P3.1: Less(%v, %v) = %v", a, b, got)
			}
			if got := Same(a, b); got != (i == j) {
				t.Errorf("P3.1: Same(%v, %v) = %v", a, b, got)
			}
			if got := bytes.Compare(Bytes(a), Bytes(b)); got != cmp.Compare(i, j) {
				t.Errorf("P3.1: the bytes of %v and %v: %d", a, b, got)
			}
		}
	}
}

func TestOrderOfAnyTwo(t *testing.T) {
	l := someFloats()
	for _, a := range l {
		for _, b := range l {
			want := stands(a, b)
			if got := Less(a, b); got != (want < 0) {
				t.Errorf("P3.1: Less(%x, %x) = %v", bitsOf(a), bitsOf(b), got)
			}
			if got := Same(a, b); got != (want == 0) {
				t.Errorf("P3.1: Same(%x, %x) = %v", bitsOf(a), bitsOf(b), got)
			}
			if got := bytes.Compare(Bytes(a), Bytes(b)); got != want {
				t.Errorf("P3.1: the bytes of %x and %x: %d", bitsOf(a), bitsOf(b), got)
			}
		}
	}
}

func TestOrderOfNeighbours(t *testing.T) {
	for _, f := range someFloats() {
		next := math.Nextafter(f, math.Inf(1))
		if f != f || f == 0 || next == f || next == 0 {
			continue
		}
		if !Less(f, next) || Less(next, f) || Same(f, next) {
			t.Errorf("P3.1: %v and the next number above it", f)
		}
		low, high := binary.BigEndian.Uint64(Bytes(f)), binary.BigEndian.Uint64(Bytes(next))
		if high != low+1 {
			t.Errorf("P3.1: the bytes of %v and of the next above it: %x, %x", f, low, high)
		}
	}
}

func TestAllNaNsAreOne(t *testing.T) {
	l := someNaNs()
	for _, a := range l {
		for _, b := range l {
			if Less(a, b) || !Same(a, b) {
				t.Errorf("P3.1: the NaNs %x and %x", bitsOf(a), bitsOf(b))
			}
		}
		for _, b := range []float64{math.Inf(-1), -math.MaxFloat64, of(minusNought), 0, 1, math.Inf(1)} {
			if !Less(a, b) || Less(b, a) || Same(a, b) || Same(b, a) {
				t.Errorf("P3.1: the NaN %x and %v", bitsOf(a), b)
			}
		}
		if got := Bytes(a); !bytes.Equal(got, make([]byte, 8)) {
			t.Errorf("P3.1: Bytes(%x) = %x", bitsOf(a), got)
		}
	}
}

func TestKnownBytes(t *testing.T) {
	for _, c := range []struct {
		f    float64
		want string
	}{
		{math.NaN(), "\x00\x00\x00\x00\x00\x00\x00\x00"},
		{math.Inf(-1), "\x00\x0f\xff\xff\xff\xff\xff\xff"},
		{-math.MaxFloat64, "\x00\x10\x00\x00\x00\x00\x00\x00"},
		{-2, "\x3f\xff\xff\xff\xff\xff\xff\xff"},
		{-1, "\x40\x0f\xff\xff\xff\xff\xff\xff"},
		{-math.SmallestNonzeroFloat64, "\x7f\xff\xff\xff\xff\xff\xff\xfe"},
		{of(minusNought), "\x7f\xff\xff\xff\xff\xff\xff\xff"},
		{0, "\x80\x00\x00\x00\x00\x00\x00\x00"},
		{math.SmallestNonzeroFloat64, "\x80\x00\x00\x00\x00\x00\x00\x01"},
		{of(0x0123456789abcdef), "\x81\x23\x45\x67\x89\xab\xcd\xef"},
		{of(0x8123456789abcdef), "\x7e\xdc\xba\x98\x76\x54\x32\x10"},
		{1, "\xbf\xf0\x00\x00\x00\x00\x00\x00"},
		{2, "\xc0\x00\x00\x00\x00\x00\x00\x00"},
		{math.MaxFloat64, "\xff\xef\xff\xff\xff\xff\xff\xff"},
		{math.Inf(1), "\xff\xf0\x00\x00\x00\x00\x00\x00"},
	} {
		if got := Bytes(c.f); string(got) != c.want {
			t.Errorf("P3.1: Bytes(%v) = %x, want %x", c.f, got, c.want)
		}
		got, ok := Of([]byte(c.want))
		if !ok || bitsOf(got) != bitsOf(Clean(c.f)) {
			t.Errorf("P3.1: Of(%x) = %v, %v, want %v", c.want, got, ok, c.f)
		}
	}
}

func TestBytesThereAndBack(t *testing.T) {
	for _, f := range slices.Concat(someFloats(), anyFloats(2, 20000)) {
		b := Bytes(f)
		if want := written(f); !bytes.Equal(b, want) {
			t.Errorf("P3.1: Bytes(%x) = %x, want %x", bitsOf(f), b, want)
		}
		want := bitsOf(f)
		if f != f {
			want = oneNaN
		}
		got, ok := Of(b)
		if !ok || bitsOf(got) != want {
			t.Errorf("P3.1: Of(%x) = %x, %v, want %x", b, bitsOf(got), ok, want)
		}
	}
}

// nothing asks that Of answers false and a plus nought.
func nothing(t *testing.T, b []byte) {
	t.Helper()
	if f, ok := Of(b); ok || bitsOf(f) != 0 {
		t.Errorf("P3.1: Of(%x) = %v, %v", b, f, ok)
	}
}

func TestOfBytesThatBytesNeverGives(t *testing.T) {
	eight := func(u uint64) []byte { return binary.BigEndian.AppendUint64(nil, u) }
	low, high := ^minusInf, plusInf^minusNought
	for i := range 52 {
		nothing(t, eight(1<<i))
		nothing(t, eight(low-1<<i))
		nothing(t, eight(high+1<<i))
		nothing(t, eight(math.MaxUint64-1<<i))
	}
	for _, u := range []uint64{1, low - 1, high + 1, math.MaxUint64, oneNaN ^ minusNought, ^oneNaN &^ minusNought} {
		nothing(t, eight(u))
	}
	for _, f := range someNaNs() {
		b := eight(bitsOf(f) ^ minusNought)
		if math.Signbit(f) {
			b = eight(^bitsOf(f))
		}
		if !bytes.Equal(b, make([]byte, 8)) {
			nothing(t, b)
		}
	}
	for _, u := range []uint64{0, low, low + 1, high - 1, high} {
		if _, ok := Of(eight(u)); !ok {
			t.Errorf("P3.1: Of(%x) is none", eight(u))
		}
	}
}

func TestOfAnyEightBytes(t *testing.T) {
	s := source(3)
	for range 50000 {
		u := s.next()
		if s.below(2) == 0 {
			u = u&^(0x7ff<<52) | []uint64{0, 1, 0x7fe, 0x7ff}[s.below(4)]<<52
		}
		b := binary.BigEndian.AppendUint64(nil, u)
		f, ok := Of(b)
		given := u == 0 || u >= ^minusInf && u <= plusInf^minusNought
		if ok != given {
			t.Fatalf("P3.1: Of(%x) = %v, %v", b, f, ok)
		}
		if ok && !bytes.Equal(Bytes(f), b) || !ok && bitsOf(f) != 0 {
			t.Fatalf("P3.1: Of(%x) = %v, %v, whose bytes are %x", b, f, ok, Bytes(f))
		}
	}
}

func TestOfOtherLengths(t *testing.T) {
	nothing(t, nil)
	nothing(t, []byte{})
	nothing(t, make([]byte, 0, 8))
	for _, f := range someFloats() {
		b := Bytes(f)
		for n := range 8 {
			nothing(t, b[:n])
			nothing(t, b[8-n:])
		}
		for _, c := range []byte{0, 1, 0x80, 0xff} {
			nothing(t, append(bytes.Clone(b), c))
			nothing(t, append([]byte{c}, b...))
		}
		nothing(t, append(bytes.Clone(b), b...))
	}
	for _, n := range []int{1, 7, 9, 16, 64, 1 << 20} {
		nothing(t, make([]byte, n))
	}
}

func TestKnownSums(t *testing.T) {
	inf, nan, big := math.Inf(1), math.NaN(), math.MaxFloat64
	none := of(minusNought)
	for _, c := range []struct {
		fs   []float64
		want uint64
	}{
		{nil, 0},
		{[]float64{}, 0},
		{[]float64{0}, 0},
		{[]float64{none}, 0},
		{[]float64{none, none, none}, 0},
		{[]float64{1, -1}, 0},
		{[]float64{-1, 1}, 0},
		{[]float64{-1, 1, none}, 0},
		{[]float64{7}, bitsOf(7)},
		{[]float64{-7.5}, bitsOf(-7.5)},
		{[]float64{1, 2, 3, 4}, bitsOf(10)},
		{[]float64{0.1, 0.2}, bitsOf(0.30000000000000004)},
		{[]float64{0.1, 0.2, 0.3}, bitsOf(0.6000000000000001)},
		{[]float64{0.3, 0.2, 0.1}, bitsOf(0.6)},
		{[]float64{1e16, 1, -1e16}, 0},
		{[]float64{1e16, -1e16, 1}, bitsOf(1)},
		{[]float64{1, 1e16, -1e16}, 0},
		{[]float64{1 << 53, 1, 1}, bitsOf(1 << 53)},
		{[]float64{1, 1, 1 << 53}, bitsOf(1<<53 + 2)},
		{[]float64{math.SmallestNonzeroFloat64, math.SmallestNonzeroFloat64}, 2},
		{[]float64{big}, bitsOf(big)},
		{[]float64{big, big}, plusInf},
		{[]float64{-big, -big}, minusInf},
		{[]float64{big, big, -big, -big}, plusInf},
		{[]float64{big, -big, big}, bitsOf(big)},
		{[]float64{inf}, plusInf},
		{[]float64{-inf, 5}, minusInf},
		{[]float64{inf, inf, -big}, plusInf},
		{[]float64{inf, -inf}, oneNaN},
		{[]float64{-inf, inf}, oneNaN},
		{[]float64{inf, -inf, 3}, oneNaN},
		{[]float64{big, big, -inf}, oneNaN},
		{[]float64{nan}, oneNaN},
		{[]float64{nan, 1}, oneNaN},
		{[]float64{1, nan}, oneNaN},
		{[]float64{1, nan, -inf, 2}, oneNaN},
		{[]float64{of(minusInf | 1)}, oneNaN},
		{[]float64{of(minusInf | 5), of(plusInf | 9), 4}, oneNaN},
	} {
		if got := Sum(c.fs...); bitsOf(got) != c.want {
			t.Errorf("P3.1: Sum(%v) = %v, want %v", c.fs, got, of(c.want))
		}
	}
	if got := Sum(); bitsOf(got) != 0 {
		t.Errorf("P3.1: Sum() = %v", got)
	}
}

func TestSumWithANaN(t *testing.T) {
	for _, f := range someNaNs() {
		for at := range 4 {
			l := slices.Insert([]float64{1, math.Inf(1), -2}, at, f)
			if got := Sum(l...); bitsOf(got) != oneNaN {
				t.Errorf("P3.1: Sum(%v) = %x", l, bitsOf(got))
			}
		}
	}
}

func TestSumOfOne(t *testing.T) {
	for _, f := range someFloats() {
		want := bitsOf(Clean(f))
		if f == 0 {
			want = 0
		}
		if got := Sum(f); bitsOf(got) != want {
			t.Errorf("P3.1: Sum(%x) = %x", bitsOf(f), bitsOf(got))
		}
	}
}

// added is a sum whose every step is rounded from the exact one.
func added(fs []float64) float64 {
	sum := 0.0
	for _, f := range fs {
		exact := new(big.Float).SetPrec(4000).SetFloat64(sum)
		exact.Add(exact, new(big.Float).SetPrec(4000).SetFloat64(f))
		sum, _ = exact.Float64()
		if math.IsInf(sum, 0) {
			break
		}
	}
	return sum
}

func TestSumRoundsEachStep(t *testing.T) {
	s := source(4)
	other := 0
	for range 500 {
		l := make([]float64, s.below(40))
		for i := range l {
			l[i] = math.Ldexp(float64(s.below(2000001)-1000000)/7, s.below(120)-60)
		}
		got := Sum(l...)
		if want := added(l); got != want {
			t.Errorf("P3.1: Sum(%v) = %v, want %v", l, got, want)
		}
		turned := slices.Clone(l)
		slices.Reverse(turned)
		if want := added(turned); Sum(turned...) != want {
			t.Errorf("P3.1: Sum(%v) = %v, want %v", turned, Sum(turned...), want)
		}
		if Sum(turned...) != got {
			other++
		}
	}
	if other == 0 {
		t.Error("P3.1: no sum was another in another order")
	}
}

func TestSumOfMany(t *testing.T) {
	l := make([]float64, 1<<20)
	for i := range l {
		l[i] = float64(i)
	}
	if got, want := Sum(l...), float64(len(l)*(len(l)-1)/2); got != want {
		t.Errorf("P3.1: %v, want %v", got, want)
	}
	for i := range l {
		l[i] = 0.1
	}
	want := 0.0
	for range l {
		want += 0.1
	}
	if got := Sum(l...); got != want || got == 0.1*float64(len(l)) {
		t.Errorf("P3.1: %v, want %v", got, want)
	}
}

func TestSortedByLessAndByBytes(t *testing.T) {
	byLess := slices.Concat(someFloats(), anyFloats(5, 2000))
	byBytes := slices.Clone(byLess)
	slices.SortStableFunc(byLess, func(a, b float64) int { return b2i(Less(b, a)) - b2i(Less(a, b)) })
	slices.SortStableFunc(byBytes, func(a, b float64) int { return bytes.Compare(Bytes(a), Bytes(b)) })
	for i := range byLess {
		if !Same(byLess[i], byBytes[i]) || i > 0 && stands(byLess[i-1], byLess[i]) > 0 {
			t.Fatalf("P3.1: at %d: %v by Less, %v by Bytes", i, byLess[i], byBytes[i])
		}
	}
}

func TestTheArgumentsAreLeftAlone(t *testing.T) {
	for n := range 10 {
		room := bytes.Repeat([]byte{0xbf, 0xf0, 1}, 20)
		before := bytes.Clone(room)
		f, ok := Of(room[:n])
		if !bytes.Equal(room, before) {
			t.Fatalf("P0.3: Of, %d bytes: the argument or its spare room was written", n)
		}
		spoil(room)
		if g, again := Of(before[:n]); bitsOf(g) != bitsOf(f) || again != ok {
			t.Fatalf("P0.3: Of, %d bytes: the argument was kept", n)
		}
	}
	all := someFloats()
	for from := range all {
		sumLeavesAlone(t, all[from:], min(from%9, len(all)-from))
	}
}

// sumLeavesAlone asks for the sum of the first n of fs, the rest spare room.
func sumLeavesAlone(t *testing.T, fs []float64, n int) {
	t.Helper()
	room := slices.Clone(fs)
	sum := Sum(room[:n]...)
	for i := range room {
		if bitsOf(room[i]) != bitsOf(fs[i]) {
			t.Fatalf("P0.3: Sum of %d: the argument or its spare room was written", n)
		}
		room[i] = 3
	}
	if got := Sum(fs[:n]...); bitsOf(got) != bitsOf(sum) {
		t.Fatalf("P0.3: Sum of %d: the argument was kept", n)
	}
}

func TestSpareRoomDoesNotCount(t *testing.T) {
	room := append(Bytes(-2.5), 1, 2, 3)
	if f, ok := Of(room[:8]); !ok || f != -2.5 {
		t.Errorf("P0.3: Of, with spare room: %v, %v", f, ok)
	}
	nothing(t, room[:7])
	fs := []float64{1, 2, 4, 8}
	for n := range len(fs) + 1 {
		if got, want := Sum(fs[:n]...), float64(int(1)<<n-1); got != want {
			t.Errorf("P0.3: Sum of %d: %v, want %v", n, got, want)
		}
	}
}

func TestAnswersShareNothing(t *testing.T) {
	for _, f := range someFloats() {
		one, two := Bytes(f), Bytes(f)
		spoil(one)
		if want := written(f); !bytes.Equal(two, want) || !bytes.Equal(Bytes(f), want) {
			t.Fatalf("P0.3: Bytes(%v) shares memory with another answer", f)
		}
	}
}

func TestOneCallOneAnswer(t *testing.T) {
	l := someFloats()
	first := [][]byte{}
	for _, f := range l {
		first = append(first, Bytes(f))
	}
	for i, f := range slices.Backward(l) {
		Sum(l[:i]...)
		Of([]byte("something in between"))
		if got := Bytes(f); !bytes.Equal(got, first[i]) {
			t.Errorf("P0.5: Bytes(%v) = %x, then %x", f, first[i], got)
		}
	}
}
