package key

import (
	"bytes"
	"cmp"
	"encoding/binary"
	"math"
	"slices"
	"strings"
	"testing"
	"unsafe"

	"engross/float"
)

const (
	minusNought = uint64(1) << 63
	plusInf     = uint64(0x7ff0000000000000)
	minusInf    = uint64(0xfff0000000000000)
	oneNaN      = uint64(0x7ff8000000000000)
)

// source is a small generator, so that every run tries the same inputs.
type source uint64

func (s *source) next() uint64 {
	*s ^= *s << 13
	*s ^= *s >> 7
	*s ^= *s << 17
	return uint64(*s)
}

func (s *source) below(n int) int { return int(s.next() >> 8 % uint64(n)) }

// text is of n bytes, each one of letters.
func (s *source) text(n int, letters string) string {
	b := make([]byte, n)
	for i := range b {
		b[i] = letters[s.below(len(letters))]
	}
	return string(b)
}

func bitsOf(f float64) uint64 { return math.Float64bits(f) }

func of(bits uint64) float64 { return math.Float64frombits(bits) }

func eight(u uint64) string { return string(binary.BigEndian.AppendUint64(nil, u)) }

// allBytes has each byte once.
func allBytes() string {
	b := make([]byte, 256)
	for i := range b {
		b[i] = byte(i)
	}
	return string(b)
}

func someNaNs() []float64 {
	l := []float64{math.NaN(), of(oneNaN), of(oneNaN | minusNought)}
	for i := range 52 {
		l = append(l, of(plusInf|1<<i), of(minusInf|1<<i))
	}
	return append(l, of(math.MaxUint64), of(math.MaxUint64>>1), of(plusInf|0xdeadbeef))
}

// inOrder are floats of different places, the first ahead of the second and so
// on.
func inOrder() []float64 {
	above := []float64{
		math.SmallestNonzeroFloat64, 2 * math.SmallestNonzeroFloat64, of(0x000fffffffffffff), of(0x0010000000000000),
		1e-300, 0.1, math.Nextafter(0.5, 0), 0.5, math.Nextafter(0.5, 1), 1, 1.5, 2, 10, 127, 128, 255, 256, 65536,
		1<<53 - 1, 1 << 53, 1 << 63, 1e300, math.Nextafter(math.MaxFloat64, 0), math.MaxFloat64, math.Inf(1),
	}
	l := []float64{of(oneNaN)}
	for _, f := range slices.Backward(above) {
		l = append(l, -f)
	}
	l = append(l, of(minusNought), 0)
	return append(l, above...)
}

func anyFloats(seed source, n int) []float64 {
	l := make([]float64, n)
	for i := range l {
		switch seed.below(3) {
		case 0:
			l[i] = of(seed.next())
		case 1:
			l[i] = float64(seed.below(2000)-1000) / 8
		default:
			l[i] = of(seed.next()&(minusNought|7) | uint64(seed.below(2048))<<52)
		}
	}
	return l
}

func someFloats() []float64 {
	return slices.Concat(inOrder(), someNaNs(), anyFloats(1, 150))
}

// place is a float's as the eight bytes tell it, made without the package
// beneath.
func place(f float64) uint64 {
	switch {
	case f != f:
		return 0
	case math.Signbit(f):
		return ^bitsOf(f)
	}
	return bitsOf(f) | minusNought
}

// compare goes byte by byte, by the words of the chapter.
func compare(a, b string) int {
	for i := range min(len(a), len(b)) {
		if a[i] != b[i] {
			return cmp.Compare(int(a[i]), int(b[i]))
		}
	}
	return cmp.Compare(len(a), len(b))
}

// middle is what P5.1 asks of Mid, by trying all of b's beginnings.
func middle(a, b string) string {
	if compare(a, b) >= 0 {
		return ""
	}
	for n := range len(b) + 1 {
		if compare(b[:n], a) > 0 && compare(b[:n], b) <= 0 {
			return b[:n]
		}
	}
	panic("of a below b, b itself is one")
}

// within is what P5.1 asks of In.
func within(s, from, to string) bool {
	if compare(s, from) < 0 {
		return false
	}
	if len(to) == 0 {
		return true
	}
	return compare(s, to) < 0
}

// shortTexts are all texts of letters, up to the length most.
func shortTexts(letters string, most int) []string {
	l := []string{""}
	last := l
	for range most {
		next := []string{}
		for _, s := range last {
			for i := range len(letters) {
				next = append(next, s+letters[i:i+1])
			}
		}
		l = append(l, next...)
		last = next
	}
	return l
}

// someTexts are of many lengths, with beginnings in common, and bytes of which
// signs or runes would make another order.
func someTexts() []string {
	l := shortTexts("\x00a\xff", 3)
	l = append(l, "abc", "abd", "abcd", "b", "bcd", "B", "é", "e", "z", "\x7f", "\x80", "\x80\x7f", "値", "\xf0", "f", "g")
	for _, n := range []int{15, 16, 17, 255, 256, 257} {
		for _, c := range []string{"\x00", "k", "\xff"} {
			l = append(l, strings.Repeat(c, n))
		}
	}
	return append(l, Of(1), Of(-1), Of(math.NaN()), Of(1)+"x")
}

func checkMid(t *testing.T, a, b string) {
	t.Helper()
	if got, want := Mid(a, b), middle(a, b); got != want {
		t.Errorf("P5.1: Mid(%.40q, %.40q) = %.40q, want %.40q", a, b, got, want)
	}
}

func checkIn(t *testing.T, s, from, to string) {
	t.Helper()
	if got, want := In(s, from, to), within(s, from, to); got != want {
		t.Errorf("P5.1: In(%.40q, %.40q, %.40q) = %v", s, from, to, got)
	}
}

// none asks that Float answers false and a plus nought.
func none(t *testing.T, s string) {
	t.Helper()
	if f, ok := Float(s); ok || bitsOf(f) != 0 {
		t.Errorf("P5.1: Float(%.40q) = %v, %v", s, f, ok)
	}
}

func TestMayByLength(t *testing.T) {
	for n := range 600 {
		for _, c := range []string{"k", "\x00", "\xff", "\x80"} {
			if got := May(strings.Repeat(c, n)); got != (n >= 1 && n <= 16) {
				t.Errorf("P5.1: May of %d times %q: %v", n, c, got)
			}
		}
	}
	for _, n := range []int{1 << 16, 1<<16 + 1, 1<<16 + 16, 1 << 20} {
		if May(strings.Repeat("k", n)) {
			t.Errorf("P5.1: May of %d bytes", n)
		}
	}
}

func TestMayOfAnyBytes(t *testing.T) {
	for i := range 256 {
		c := allBytes()[i : i+1]
		for _, s := range []string{c, "a" + c, c + "a", strings.Repeat("a", 15) + c, c + strings.Repeat("a", 15)} {
			if !May(s) {
				t.Errorf("P5.1: May(%q) is false", s)
			}
		}
		if long := strings.Repeat("a", 16) + c; May(long) {
			t.Errorf("P5.1: May(%q) is true", long)
		}
	}
	s := source(1)
	for range 5000 {
		n := s.below(24)
		if x := s.text(n, allBytes()); May(x) != (n >= 1 && n <= 16) {
			t.Errorf("P5.1: May(%q) = %v", x, May(x))
		}
	}
}

// It is the bytes that are counted, not the runes.
func TestMayCountsBytes(t *testing.T) {
	if !May(strings.Repeat("値", 5)) || May(strings.Repeat("値", 6)) {
		t.Error("P5.1: May of 5 and of 6 runes of three bytes each")
	}
	if !May(strings.Repeat("é", 8)) || May(strings.Repeat("é", 8)+"e") {
		t.Error("P5.1: May of 16 and of 17 bytes")
	}
}

func TestKnownKeysOfFloats(t *testing.T) {
	for _, c := range []struct {
		f    float64
		want string
	}{
		{of(oneNaN), "f\x00\x00\x00\x00\x00\x00\x00\x00"},
		{math.Inf(-1), "f\x00\x0f\xff\xff\xff\xff\xff\xff"},
		{-math.MaxFloat64, "f\x00\x10\x00\x00\x00\x00\x00\x00"},
		{-1, "f\x40\x0f\xff\xff\xff\xff\xff\xff"},
		{-math.SmallestNonzeroFloat64, "f\x7f\xff\xff\xff\xff\xff\xff\xfe"},
		{of(minusNought), "f\x7f\xff\xff\xff\xff\xff\xff\xff"},
		{0, "f\x80\x00\x00\x00\x00\x00\x00\x00"},
		{math.SmallestNonzeroFloat64, "f\x80\x00\x00\x00\x00\x00\x00\x01"},
		{of(0x0123456789abcdef), "f\x81\x23\x45\x67\x89\xab\xcd\xef"},
		{of(0x8123456789abcdef), "f\x7e\xdc\xba\x98\x76\x54\x32\x10"},
		{1, "f\xbf\xf0\x00\x00\x00\x00\x00\x00"},
		{math.MaxFloat64, "f\xff\xef\xff\xff\xff\xff\xff\xff"},
		{math.Inf(1), "f\xff\xf0\x00\x00\x00\x00\x00\x00"},
	} {
		if got := Of(c.f); got != c.want {
			t.Errorf("P5.1: Of(%v) = %q, want %q", c.f, got, c.want)
		}
		if f, ok := Float(c.want); !ok || bitsOf(f) != bitsOf(c.f) {
			t.Errorf("P5.1: Float(%q) = %v, %v, want %v", c.want, f, ok, c.f)
		}
	}
}

func TestFloatsThereAndBack(t *testing.T) {
	for _, f := range slices.Concat(someFloats(), anyFloats(2, 20000)) {
		s := Of(f)
		if s != "f"+eight(place(f)) || s != "f"+string(float.Bytes(f)) || len(s) != 9 {
			t.Errorf("P5.1: Of(%x) = %q", bitsOf(f), s)
		}
		if !May(s) {
			t.Errorf("P5.1: May(Of(%x)) is false", bitsOf(f))
		}
		want := bitsOf(f)
		if f != f {
			want = oneNaN
		}
		if got, ok := Float(s); !ok || bitsOf(got) != want {
			t.Errorf("P5.1: Float(%q) = %x, %v, want %x", s, bitsOf(got), ok, want)
		}
	}
}

func TestAllNaNsHaveOneKey(t *testing.T) {
	for _, f := range someNaNs() {
		if got := Of(f); got != "f\x00\x00\x00\x00\x00\x00\x00\x00" {
			t.Errorf("P5.1: Of(%x) = %q", bitsOf(f), got)
		}
	}
}

func TestKeysStandAsTheFloats(t *testing.T) {
	l := inOrder()
	for i, a := range l {
		for j, b := range l {
			if got := compare(Of(a), Of(b)); got != cmp.Compare(i, j) {
				t.Errorf("P5.1: the keys of %v and %v: %d", a, b, got)
			}
		}
	}
	l = someFloats()
	for _, a := range l {
		for _, b := range l {
			got := compare(Of(a), Of(b))
			if (got < 0) != float.Less(a, b) || (got == 0) != float.Same(a, b) {
				t.Errorf("P5.1: the keys of %x and %x: %d", bitsOf(a), bitsOf(b), got)
			}
		}
	}
}

func TestFloatOfAnotherFirstByte(t *testing.T) {
	for _, f := range inOrder() {
		rest := Of(f)[1:]
		for i := range 256 {
			if i != 'f' {
				none(t, allBytes()[i:i+1]+rest)
			}
		}
	}
}

func TestFloatOfOtherLengths(t *testing.T) {
	none(t, "")
	none(t, "f")
	for _, f := range someFloats() {
		s := Of(f)
		for n := range 9 {
			none(t, s[:n])
			none(t, s[9-n:])
		}
		for _, more := range []string{"\x00", "x", "f", "\xff", s} {
			none(t, s+more)
		}
		none(t, "f"+s)
		none(t, "x"+s)
		none(t, s[1:]+"f")
	}
	for _, n := range []int{7, 8, 9, 10, 16, 17, 256 + 9, 1 << 16, 1 << 20} {
		none(t, strings.Repeat("g", n))
		if n != 9 {
			none(t, "f"+strings.Repeat("\x00", n-1))
			none(t, strings.Repeat("f", n))
		}
	}
}

func TestFloatOfBytesThatAreNone(t *testing.T) {
	low, high := ^minusInf, plusInf^minusNought
	bad := []uint64{1, 2, low - 1, high + 1, math.MaxUint64, oneNaN ^ minusNought, ^(oneNaN | minusNought)}
	for i := range 52 {
		bad = append(bad, 1<<i, low-1<<i, high+1<<i, math.MaxUint64-1<<i)
	}
	for _, u := range bad {
		none(t, "f"+eight(u))
	}
	for _, u := range []uint64{0, low, low + 1, high - 1, high} {
		if _, ok := Float("f" + eight(u)); !ok {
			t.Errorf("P5.1: Float(%q) is none", "f"+eight(u))
		}
	}
}

func TestFloatOfAnyText(t *testing.T) {
	s := source(3)
	taken := 0
	for range 50000 {
		u := s.next()
		if s.below(2) == 0 {
			u = u&^(0x7ff<<52) | []uint64{0, 1, 0x7fe, 0x7ff}[s.below(4)]<<52
		}
		x := s.text(1, "fffFg\x00") + eight(u)
		want, ok := float.Of([]byte(x[1:]))
		if !ok || x[0] != 'f' {
			none(t, x)
			continue
		}
		taken++
		f, ok := Float(x)
		if !ok || bitsOf(f) != bitsOf(want) || Of(f) != x {
			t.Errorf("P5.1: Float(%q) = %v, %v", x, f, ok)
		}
	}
	if taken < 10000 {
		t.Errorf("only %d keys were taken", taken)
	}
}

func TestKnownIn(t *testing.T) {
	for _, c := range []struct {
		s, from, to string
		want        bool
	}{
		{"b", "a", "c", true},
		{"a", "a", "c", true},
		{"c", "a", "c", false},
		{"bz", "a", "c", true},
		{"a\x00", "a", "b", true},
		{"a", "a\x00", "b", false},
		{"b\x00", "a", "b", false},
		{"a\xff\xff", "a", "b", true},
		{"a", "a", "a", false},
		{"a", "a", "a\x00", true},
		{"b", "c", "a", false},
		{"a", "c", "a", false},
		{"c", "c", "a", false},
		{"z", "a", "", true},
		{"a", "a", "", true},
		{"a", "b", "", false},
		{"\xff", "\x7f", "", true},
		{"\x7f", "\x80", "", false},
		{"\x7f", "", "\x80", true},
		{"", "", "", true},
		{"a", "", "", true},
		{"", "", "a", true},
		{"", "", "\x00", true},
		{"\x00", "", "\x00", false},
		{"", "a", "", false},
		{"", "\x00", "", false},
		{"", "a", "b", false},
	} {
		if got := In(c.s, c.from, c.to); got != c.want {
			t.Errorf("P5.1: In(%q, %q, %q) = %v", c.s, c.from, c.to, got)
		}
	}
}

func TestInOfAnyThree(t *testing.T) {
	l := someTexts()
	for _, s := range l {
		for _, from := range l {
			for _, to := range l {
				checkIn(t, s, from, to)
			}
		}
	}
}

// The keys in a range of floats are those of the floats of that range.
func TestInOfKeysOfFloats(t *testing.T) {
	l := inOrder()
	for i, a := range l {
		for j, b := range l {
			for k, c := range l {
				if got := In(Of(a), Of(b), Of(c)); got != (j <= i && i < k) {
					t.Errorf("P5.1: In of the keys of %v, %v, %v = %v", a, b, c, got)
				}
			}
		}
	}
}

func TestKnownMid(t *testing.T) {
	for _, c := range []struct{ a, b, want string }{
		{"", "", ""},
		{"a", "a", ""},
		{"b", "a", ""},
		{"a", "", ""},
		{"ab", "a", ""},
		{"a\x00", "a", ""},
		{"", "x", "x"},
		{"", "xyz", "x"},
		{"", "\x00", "\x00"},
		{"", "\x00\x00", "\x00"},
		{"\x00", "\x00\x00\x00", "\x00\x00"},
		{"a", "b", "b"},
		{"a", "bcd", "b"},
		{"abc", "b", "b"},
		{"abc", "bcd", "b"},
		{"abc", "abd", "abd"},
		{"abc", "abdef", "abd"},
		{"ab", "abc", "abc"},
		{"ab", "abcde", "abc"},
		{"ab", "ab\x00z", "ab\x00"},
		{"ab\xff", "ac", "ac"},
		{"ab\xff\xff", "acxyz", "ac"},
		{"a\x7f", "a\x80b", "a\x80"},
		{"a\x80", "a\x7fb", ""},
		{"\xfe", "\xff\xff", "\xff"},
		{"\xff", "\xff\xff", "\xff\xff"},
		{"値a", "値bc", "値b"},
		{"\xe5\x80\xa4", "\xe5\x81\xa4x", "\xe5\x81"},
		{"\xe5\x81\xa4", "\xe5\x80\xa4x", ""},
	} {
		if got := Mid(c.a, c.b); got != c.want {
			t.Errorf("P5.1: Mid(%q, %q) = %q, want %q", c.a, c.b, got, c.want)
		}
	}
}

func TestMidOfAnyTwo(t *testing.T) {
	l := append(someTexts(), shortTexts("\x00\x7f\x80\xff", 4)...)
	for _, a := range l {
		for _, b := range l {
			checkMid(t, a, b)
		}
	}
	s := source(4)
	for range 40000 {
		both := s.text(s.below(20), allBytes())
		checkMid(t, both+s.text(s.below(6), allBytes()), both+s.text(s.below(6), allBytes()))
	}
	for a := range 256 {
		for b := range 256 {
			checkMid(t, string([]byte{'k', byte(a), 'x'}), string([]byte{'k', byte(b), 'x', 'y'}))
		}
	}
}

// What Mid answers parts the two: a is left of it, b is not.
func TestMidPartsTheTwo(t *testing.T) {
	l := someTexts()
	for _, a := range l {
		for _, b := range l {
			m := Mid(a, b)
			if compare(a, b) >= 0 {
				if m != "" {
					t.Errorf("P5.1: Mid(%.40q, %.40q) = %.40q", a, b, m)
				}
				continue
			}
			if In(a, m, "") || !In(b, m, "") || !strings.HasPrefix(b, m) {
				t.Errorf("P5.1: Mid(%.40q, %.40q) = %.40q", a, b, m)
			}
			if m == "" || compare(m[:len(m)-1], a) > 0 {
				t.Errorf("P5.1: Mid(%.40q, %.40q) = %.40q, a shorter one does", a, b, m)
			}
		}
	}
}

func TestLongTexts(t *testing.T) {
	long := strings.Repeat("k", 1<<20)
	for _, c := range []struct{ a, b, want string }{
		{long, long, ""},
		{long, long + "x", long + "x"},
		{long, long + "xyz", long + "x"},
		{long + "x", long, ""},
		{long + "a", long + "bc", long + "b"},
		{long + "b", long + "ac", ""},
		{"", long, "k"},
		{long, "", ""},
		{long, "l" + long, "l"},
	} {
		if got := Mid(c.a, c.b); got != c.want {
			t.Errorf("P5.1: Mid of %d and %d bytes: %d", len(c.a), len(c.b), len(got))
		}
		if got := In(c.b, c.a, ""); got != (compare(c.a, c.b) <= 0) {
			t.Errorf("P5.1: In of %d and %d bytes: %v", len(c.a), len(c.b), got)
		}
	}
	none(t, long)
	none(t, "f"+long)
	none(t, Of(1)+long)
}

// over answers a text that lies on b's memory, so that a test sees who writes
// there or still reads it.
func over(b []byte) string { return unsafe.String(unsafe.SliceData(b), len(b)) }

func spoil(b []byte) {
	for i := range b {
		b[i] ^= 0xa5
	}
}

func TestWhatIsHandedInIsLeftAlone(t *testing.T) {
	l := someTexts()
	for _, a := range l {
		for _, b := range l {
			x, y := []byte(a), []byte(b)
			m := Mid(over(x), over(y))
			May(over(x))
			Float(over(x))
			In(over(x), over(y), over(x))
			if !bytes.Equal(x, []byte(a)) || !bytes.Equal(y, []byte(b)) {
				t.Fatalf("P0.3: %.40q, %.40q: an argument was written", a, b)
			}
			want := strings.Clone(m)
			spoil(x)
			spoil(y)
			if m != want {
				t.Fatalf("P0.3: Mid(%.40q, %.40q): the answer shares an argument's memory", a, b)
			}
		}
	}
}

func TestNothingIsKept(t *testing.T) {
	l := someTexts()
	for _, a := range l {
		for _, b := range l {
			m, in := Mid(a, b), In(a, b, "z")
			f, ok := Float(a)
			x, y := []byte(a), []byte(b)
			Mid(over(x), over(y))
			Float(over(x))
			In(over(x), over(y), over(x))
			spoil(x)
			spoil(y)
			g, again := Float(a)
			if Mid(a, b) != m || In(a, b, "z") != in || bitsOf(f) != bitsOf(g) || ok != again {
				t.Fatalf("P0.5: %.40q, %.40q: one call, two answers", a, b)
			}
		}
	}
	for _, f := range someFloats() {
		s := Of(f)
		Of(1)
		if Of(f) != s || s != "f"+eight(place(f)) {
			t.Fatalf("P0.5: Of(%x): one call, two answers", bitsOf(f))
		}
	}
}
