package crc

import (
	"bytes"
	"hash/crc32"
	"math/bits"
	"strings"
	"testing"
)

// source is a small generator, so that every run tries the same inputs.
type source uint64

func (s *source) next() uint64 {
	*s ^= *s << 13
	*s ^= *s >> 7
	*s ^= *s << 17
	return uint64(*s)
}

func (s *source) below(n int) int { return int(s.next() >> 8 % uint64(n)) }

func (s *source) bytes(n int) []byte {
	b := make([]byte, n)
	for i := range b {
		b[i] = byte(s.next() >> 32)
	}
	return b
}

// divide is the long division behind the sum, a bit at a time and not turned:
// the polynomial as the chapter writes it, each byte's lowest bit first.
func divide(sum uint32, b []byte) uint32 {
	rest := bits.Reverse32(^sum)
	for _, c := range b {
		for i := range 8 {
			out := rest>>31 ^ uint32(c)>>i&1
			rest = rest<<1 ^ out*0x04c11db7
		}
	}
	return ^bits.Reverse32(rest)
}

func someBytes() [][]byte {
	l := [][]byte{nil, {}, []byte("a"), []byte("some text"), []byte("Größe, 値")}
	for _, c := range []byte{0, 1, 0x80, 0xff} {
		for _, n := range []int{1, 2, 3, 4, 5, 7, 8, 9, 64, 256, 1000} {
			l = append(l, bytes.Repeat([]byte{c}, n))
		}
	}
	s := source(1)
	for n := range 300 {
		l = append(l, s.bytes(n))
	}
	return append(l, s.bytes(1<<16), s.bytes(1<<20+3))
}

func someSums() []uint32 {
	l := []uint32{0, 1, 2, 0x7fffffff, 0x80000000, 0xfffffffe, 0xffffffff, 0xcbf43926, 0xedb88320, 0x04c11db7}
	for i := range 32 {
		l = append(l, 1<<i, ^uint32(1<<i))
	}
	s := source(2)
	for range 100 {
		l = append(l, uint32(s.next()>>16))
	}
	return l
}

func spoil(b []byte) {
	b = b[:cap(b)]
	for i := range b {
		b[i] ^= 0xa5
	}
}

func TestKnownSums(t *testing.T) {
	for _, c := range []struct {
		s    string
		want uint32
	}{
		{"", 0},
		{"\x00", 0xd202ef8d},
		{"\xff", 0xff000000},
		{"a", 0xe8b7be43},
		{"abc", 0x352441c2},
		{"123456789", 0xcbf43926},
		{"\x00\x00\x00\x00", 0x2144df1c},
		{"\xff\xff\xff\xff", 0xffffffff},
		{"message digest", 0x20159d7f},
		{"abcdefghijklmnopqrstuvwxyz", 0x4c2750bd},
		{"The quick brown fox jumps over the lazy dog", 0x414fa339},
		{strings.Repeat("\x00", 32), 0x190a55ad},
		{strings.Repeat("\xff", 32), 0xff6cab0b},
	} {
		if got := Sum([]byte(c.s)); got != c.want {
			t.Errorf("P2.1: Sum(%q) = %08x, want %08x", c.s, got, c.want)
		}
	}
}

func TestSumOfNothing(t *testing.T) {
	for _, b := range [][]byte{nil, {}, make([]byte, 0, 9)} {
		if got := Sum(b); got != 0 {
			t.Errorf("P2.1: Sum(%v) = %08x", b, got)
		}
	}
}

func TestMoreOfNothing(t *testing.T) {
	for _, sum := range someSums() {
		for _, b := range [][]byte{nil, {}, make([]byte, 0, 9)} {
			if got := More(sum, b); got != sum {
				t.Errorf("P2.1: More(%08x, %v) = %08x", sum, b, got)
			}
		}
	}
}

func TestOneByteOfEachValue(t *testing.T) {
	seen := map[uint32]int{}
	for c := range 256 {
		b := []byte{byte(c)}
		got := Sum(b)
		if want := crc32.ChecksumIEEE(b); got != want {
			t.Errorf("P2.1: Sum(%x) = %08x, want %08x", b, got, want)
		}
		if other, ok := seen[got]; ok {
			t.Errorf("P2.1: %02x and %02x have one sum", other, c)
		}
		seen[got] = c
		for _, sum := range someSums() {
			if got, want := More(sum, b), crc32.Update(sum, crc32.IEEETable, b); got != want {
				t.Errorf("P2.1: More(%08x, %x) = %08x, want %08x", sum, b, got, want)
			}
		}
	}
}

func TestSumOfAnyBytes(t *testing.T) {
	for _, b := range someBytes() {
		got := Sum(b)
		if want := crc32.ChecksumIEEE(b); got != want {
			t.Errorf("P2.1: Sum(%.20x), %d bytes = %08x, want %08x", b, len(b), got, want)
		}
		if want := divide(0, b); got != want {
			t.Errorf("P2.1: Sum(%.20x), %d bytes = %08x, the division leaves %08x", b, len(b), got, want)
		}
	}
}

// A sum that no Sum answered stands for bytes too: More takes any.
func TestMoreOfAnySum(t *testing.T) {
	for i, b := range someBytes() {
		sums := someSums()
		if len(b) > 1000 {
			sums = sums[i%9 : i%9+2]
		}
		for _, sum := range sums {
			got := More(sum, b)
			if want := crc32.Update(sum, crc32.IEEETable, b); got != want {
				t.Errorf("P2.1: More(%08x, %.20x), %d bytes = %08x, want %08x", sum, b, len(b), got, want)
			}
		}
	}
	for _, sum := range someSums() {
		b := []byte("some text, and 123456789\x00\xff")
		if got, want := More(sum, b), divide(sum, b); got != want {
			t.Errorf("P2.1: More(%08x, %q) = %08x, the division leaves %08x", sum, b, got, want)
		}
	}
}

func TestInTwoPieces(t *testing.T) {
	s := source(3)
	b := s.bytes(300)
	whole := Sum(b)
	for cut := range len(b) + 1 {
		if got := More(Sum(b[:cut]), b[cut:]); got != whole {
			t.Errorf("P2.1: cut at %d: %08x, want %08x", cut, got, whole)
		}
	}
}

func TestInManyPieces(t *testing.T) {
	s := source(4)
	for range 500 {
		b := s.bytes(s.below(400))
		sum, rest := uint32(0), b
		for len(rest) > 0 {
			n := s.below(min(len(rest), 9) + 1)
			sum, rest = More(sum, rest[:n]), rest[n:]
		}
		if whole := Sum(b); sum != whole {
			t.Errorf("P2.1: %d bytes in pieces: %08x, want %08x", len(b), sum, whole)
		}
	}
	b, sum := s.bytes(1000), uint32(0)
	for i := range b {
		sum = More(sum, b[i:i+1])
		if want := Sum(b[:i+1]); sum != want {
			t.Fatalf("P2.1: %d bytes, one at a time: %08x, want %08x", i+1, sum, want)
		}
	}
}

func TestOneByteChanged(t *testing.T) {
	s := source(5)
	b := s.bytes(100)
	whole := Sum(b)
	for i := range b {
		for d := 1; d < 256; d++ {
			b[i] ^= byte(d)
			if got := Sum(b); got == whole || got != crc32.ChecksumIEEE(b) {
				t.Fatalf("P2.1: byte %d changed by %02x: %08x, it was %08x", i, d, got, whole)
			}
			b[i] ^= byte(d)
		}
	}
}

// The polynomial has 33 bits, so no change within 32 of them, wherever they
// begin, leaves the sum as it was.
func TestSeveralBytesChangedOneBehindTheOther(t *testing.T) {
	s := source(6)
	b := s.bytes(256)
	whole := Sum(b)
	for range 20000 {
		at, n := s.below(8*len(b)-32), 1+s.below(32)
		change := (s.next()>>16&(1<<n-1) | 1) << (at % 8)
		changed := bytes.Clone(b)
		for i := range 5 {
			changed[at/8+i] ^= byte(change >> (8 * i))
		}
		if got := Sum(changed); got == whole || got != crc32.ChecksumIEEE(changed) {
			t.Fatalf("P2.1: %d bits from bit %d on changed by %010x: %08x, it was %08x", n, at, change, got, whole)
		}
	}
}

func TestChangesAtSeveralPlaces(t *testing.T) {
	s := source(7)
	b := s.bytes(256)
	sum := Sum(b)
	for range 2000 {
		at := s.below(len(b))
		b[at] ^= byte(1 + s.below(255))
		got := Sum(b)
		if want := crc32.ChecksumIEEE(b); got != want || got == sum {
			t.Fatalf("P2.1: byte %d changed: %08x, want %08x, it was %08x", at, got, want, sum)
		}
		sum = got
	}
}

func TestOrderAndLengthCount(t *testing.T) {
	for _, c := range [][2]string{
		{"ab", "ba"}, {"a", "a\x00"}, {"a", "\x00a"}, {"", "\x00"}, {"\x00", "\x00\x00"}, {"abcd", "abc"}, {"aabb", "bbaa"},
	} {
		if Sum([]byte(c[0])) == Sum([]byte(c[1])) {
			t.Errorf("P2.1: %q and %q have one sum", c[0], c[1])
		}
	}
}

func TestTheArgumentIsLeftAlone(t *testing.T) {
	for _, length := range []int{0, 1, 5, 64, 300} {
		room := bytes.Repeat([]byte{7, 9}, 200)
		before := bytes.Clone(room)
		sum := Sum(room[:length])
		more := More(5, room[:length])
		if !bytes.Equal(room, before) {
			t.Fatalf("P0.3: %d bytes: the argument or its spare room was written", length)
		}
		spoil(room)
		if Sum(before[:length]) != sum || More(5, before[:length]) != more {
			t.Fatalf("P0.3: %d bytes: the argument was kept", length)
		}
	}
}

func TestSpareRoomDoesNotCount(t *testing.T) {
	b := []byte("some text")
	for n := range len(b) + 1 {
		alone := bytes.Clone(b[:n:n])
		if Sum(b[:n]) != Sum(alone) || More(3, b[:n]) != More(3, alone) {
			t.Errorf("P0.3: %d bytes: the spare room counts", n)
		}
	}
}

func TestOneCallOneAnswer(t *testing.T) {
	list := someBytes()
	first := []uint32{}
	for _, b := range list {
		first = append(first, Sum(b))
	}
	for i := len(list) - 1; i >= 0; i-- {
		More(uint32(i), []byte("something in between"))
		if got := Sum(list[i]); got != first[i] {
			t.Errorf("P0.5: %d bytes: %08x, then %08x", len(list[i]), first[i], got)
		}
	}
}
