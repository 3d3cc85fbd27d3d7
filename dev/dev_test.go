package dev

import (
	"bytes"
	"math"
	"slices"
	"strings"
	"testing"

	"engross/api"
)

// source is a small generator, so that every run tries the same inputs.
type source uint64

func (s *source) next() uint64 {
	*s ^= *s << 13
	*s ^= *s >> 7
	*s ^= *s << 17
	return uint64(*s)
}

func (s *source) below(n int) int { return int(s.next() >> 8 % uint64(n)) }

func (s *source) bytes(n int) []byte {
	b := make([]byte, n)
	for i := range b {
		b[i] = byte(s.next() >> 16)
	}
	return b
}

func (s *source) bools(n int) []bool {
	l := make([]bool, n)
	for i := range l {
		l[i] = s.below(2) == 1
	}
	return l
}

// of64 is a sector's 64 bytes: s, and noughts behind it.
func of64(s string) string { return s + strings.Repeat("\x00", 64-len(s)) }

// row is n times c.
func row(c byte, n int) []byte { return bytes.Repeat([]byte{c}, n) }

// spoil writes all over b, its spare room too.
func spoil(b []byte) {
	b = b[:cap(b)]
	for i := range b {
		b[i] ^= 0xa5
	}
}

// outside are numbers that are no sector of a device of n.
func outside(n int) []int {
	return []int{
		-1, -2, -n, -n - 1, -64, n, n + 1, n + 63, 2 * n, 64 * n, 4096, 1 << 31, 1 << 32, 1<<32 + 1, -1 << 32,
		1 << 57, 1 << 58, 1 << 62, math.MaxInt64, math.MaxInt64 - 1, math.MinInt64, math.MinInt64 + 1,
	}
}

// sight is all that a device shows.
type sight struct {
	sectors []string
	loose   []int
	calls   int
	dead    bool
}

func see(t *testing.T, d *Dev) sight {
	t.Helper()
	s := sight{loose: d.Loose(), calls: d.Calls(), dead: d.Dead()}
	for i := range d.Len() {
		b, err := d.Read(i)
		if err != api.OK || len(b) != 64 {
			t.Fatalf("P7.1: Read(%d) = %d bytes, %d", i, len(b), err)
		}
		s.sectors = append(s.sectors, string(b))
	}
	return s
}

func (s sight) is(o sight) bool {
	return slices.Equal(s.sectors, o.sectors) && slices.Equal(s.loose, o.loose) && s.calls == o.calls && s.dead == o.dead
}

// shows asks that d shows want.
func shows(t *testing.T, what string, d *Dev, want sight) {
	t.Helper()
	got := see(t, d)
	if got.is(want) {
		return
	}
	t.Errorf("%s: %d sectors, loose %v, calls %d, dead %v; want %d, %v, %d, %v",
		what, len(got.sectors), got.loose, got.calls, got.dead, len(want.sectors), want.loose, want.calls, want.dead)
	for i := range min(len(got.sectors), len(want.sectors)) {
		if got.sectors[i] != want.sectors[i] {
			t.Errorf("%s: sector %d: %q, want %q", what, i, got.sectors[i], want.sectors[i])
		}
	}
}

// lasts asks that just want is found behind a crash that keeps nothing.
func lasts(t *testing.T, what string, d *Dev, want ...string) {
	t.Helper()
	shows(t, what, d.Crash(), sight{sectors: want})
}

// does asks that each Errno is OK.
func does(t *testing.T, what string, l ...api.Errno) {
	t.Helper()
	for k, err := range l {
		if err != api.OK {
			t.Fatalf("P7.1: %s: call %d: %d", what, k, err)
		}
	}
}

// made is a device of n sectors, sector i filled with 'a' + i, flushed.
func made(t *testing.T, n int) *Dev {
	t.Helper()
	d := New(n)
	for i := range n {
		does(t, "made", d.Write(i, row('a'+byte(i), 64)))
	}
	does(t, "made", d.Flush())
	return d
}

func letters(n int) []string {
	l := []string{}
	for i := range n {
		l = append(l, string(row('a'+byte(i), 64)))
	}
	return l
}

func TestNew(t *testing.T) {
	for n, want := range map[int]int{
		1: 1, 2: 2, 3: 3, 63: 63, 64: 64, 65: 65, 385: 385, 1410: 1410, 2046: 2046, 2047: 2047, 2048: 2048,
		0: 1, -1: 1, -2: 1, -2048: 1, -1 << 32: 1, -1<<32 + 5: 1, math.MinInt64: 1, math.MinInt64 + 1: 1,
		2049: 2048, 2050: 2048, 4096: 2048, 1 << 16: 2048, 1 << 32: 2048, 1<<32 + 5: 2048, 1 << 58: 2048,
		math.MaxInt64: 2048, math.MaxInt64 - 1: 2048,
	} {
		d := New(n)
		if d == nil || d.Len() != want {
			t.Fatalf("P7.1: New(%d) has %d sectors, want %d", n, d.Len(), want)
		}
		shows(t, "P7.1: a new one", d, sight{sectors: slices.Repeat([]string{of64("")}, want)})
		for _, i := range outside(want) {
			if b, err := d.Read(i); len(b) != 0 || err != api.ErrRange {
				t.Errorf("P7.1: of %d sectors Read(%d) = %d bytes, %d", want, i, len(b), err)
			}
		}
	}
}

func TestTwoDevicesShareNothing(t *testing.T) {
	a, b := New(3), New(3)
	does(t, "one of two", a.Write(1, []byte("x")), a.Flush(), a.Write(2, []byte("y")))
	a.Fuse(0)
	shows(t, "P0.5: the other one", b, sight{sectors: []string{of64(""), of64(""), of64("")}})
	shows(t, "P0.5: a third one", New(3), sight{sectors: []string{of64(""), of64(""), of64("")}})
}

func TestLenStays(t *testing.T) {
	for _, n := range []int{1, 5, 2048} {
		d := New(n)
		for _, err := range []api.Errno{d.Write(0, row(1, 64)), d.Write(n-1, nil), d.Flush(), d.Write(0, nil)} {
			does(t, "Len", err)
			if d.Len() != n || d.Crash().Len() != n || d.Crash(true).Len() != n {
				t.Fatalf("P7.1: Len %d, of a Crash %d, want %d", d.Len(), d.Crash().Len(), n)
			}
		}
		d.Write(n, nil)
		d.Fuse(0)
		if d.Write(0, nil); d.Len() != n {
			t.Errorf("P7.1: a dead one's Len %d, want %d", d.Len(), n)
		}
	}
}

// Each sector is read as it was written, loose or not.
func TestReadOfEachSector(t *testing.T) {
	for _, n := range []int{1, 2, 7, 2048} {
		d := New(n)
		s := source(n)
		want := []string{}
		for i := range n {
			b := s.bytes(64)
			want = append(want, string(b))
			does(t, "Write", d.Write(i, b))
		}
		for k := range 2 {
			for i := range n {
				if b, err := d.Read(i); string(b) != want[i] || err != api.OK {
					t.Fatalf("P7.1: Read(%d) = %x, %d, want %x, flushed %d", i, b, err, want[i], k)
				}
			}
			does(t, "Flush", d.Flush())
		}
	}
}

func TestReadOfNoSector(t *testing.T) {
	for _, n := range []int{1, 3, 2048} {
		d := New(n)
		for range 2 {
			for _, i := range outside(n) {
				if b, err := d.Read(i); len(b) != 0 || err != api.ErrRange {
					t.Errorf("P7.1: of %d sectors Read(%d) = %x, %d", n, i, b, err)
				}
			}
			// A dead one can still be read, and tells the same.
			d.Fuse(0)
		}
	}
}

// A Read is no call that counts, and changes nothing.
func TestReadLeavesAllAsItWas(t *testing.T) {
	d := made(t, 3)
	does(t, "Write", d.Write(1, []byte("x")))
	d.Fuse(1)
	before := see(t, d)
	for range 5 {
		for _, i := range []int{0, 1, 2, 3, -1} {
			d.Read(i)
		}
		shows(t, "P7.1: behind Reads", d, before)
	}
	does(t, "the fuse", d.Flush())
	if !d.Dead() {
		t.Error("P7.1: the fuse")
	}
}

func TestReadOfADeadDevice(t *testing.T) {
	d := made(t, 3)
	does(t, "Write", d.Write(1, []byte("xy")))
	want := see(t, d)
	want.dead = true
	d.Fuse(0)
	d.Write(0, row('n', 64))
	d.Write(1, row('n', 64))
	d.Flush()
	shows(t, "P7.1: a dead one", d, want)
	if b, err := d.Read(1); string(b) != "xy"+string(row('b', 62)) || err != api.OK {
		t.Errorf("P7.1: Read of a dead one: %q, %d", b, err)
	}
}

func TestWriteOfEachLength(t *testing.T) {
	for n := range 65 {
		d := New(2)
		does(t, "Write", d.Write(1, row('x', n)))
		shows(t, "P7.1: Write", d, sight{[]string{of64(""), of64(string(row('x', n)))}, []int{1}, 1, false})
	}
	does(t, "Write of nil", New(1).Write(0, nil))
	does(t, "Write of none", New(1).Write(0, []byte{}))
}

func TestWriteOfTooMany(t *testing.T) {
	for _, n := range []int{65, 66, 127, 128, 256, 257, 320, 1<<16 + 1, 1 << 20} {
		d := made(t, 3)
		does(t, "Write", d.Write(2, []byte("x")))
		before := see(t, d)
		for i := range 3 {
			if err := d.Write(i, row('n', n)); err != api.ErrForm {
				t.Errorf("P7.1: Write of %d bytes: %d", n, err)
			}
		}
		shows(t, "P7.1: behind a Write of too many", d, before)
		lasts(t, "P7.1: behind a Write of too many", d, letters(3)...)
	}
	// The room behind the bytes does not count.
	if err := New(1).Write(0, make([]byte, 64, 200)); err != api.OK {
		t.Errorf("P7.1: Write of 64 bytes with spare room: %d", err)
	}
	if err := New(1).Write(0, make([]byte, 65, 200)); err != api.ErrForm {
		t.Errorf("P7.1: Write of 65 bytes with spare room: %d", err)
	}
}

func TestWriteToNoSector(t *testing.T) {
	for _, n := range []int{1, 3} {
		d := made(t, n)
		does(t, "Write", d.Write(0, []byte("x")))
		before := see(t, d)
		for _, i := range outside(n) {
			for _, length := range []int{0, 1, 64, 65, 1000} {
				if err := d.Write(i, row('n', length)); err != api.ErrRange {
					t.Errorf("P7.1: of %d sectors Write(%d) of %d bytes: %d", n, i, length, err)
				}
			}
		}
		shows(t, "P7.1: behind Writes to no sector", d, before)
		lasts(t, "P7.1: behind Writes to no sector", d, letters(n)...)
	}
}

// Each length over each other one: the rest is as it was, whether that is
// loose or lasts.
func TestWriteOverAnother(t *testing.T) {
	for first := range 65 {
		for second := range 65 {
			want := []byte(of64(""))
			copy(want, row('x', first))
			copy(want, row('y', second))
			for _, flushed := range []bool{false, true} {
				d := New(1)
				does(t, "Write", d.Write(0, row('x', first)))
				if flushed {
					does(t, "Flush", d.Flush())
				}
				does(t, "Write", d.Write(0, row('y', second)))
				if b, _ := d.Read(0); !bytes.Equal(b, want) {
					t.Fatalf("P7.1: %d bytes over %d, flushed %v: %q, want %q", second, first, flushed, b, want)
				}
			}
		}
	}
}

func TestWriteOfNoBytes(t *testing.T) {
	for _, none := range [][]byte{nil, {}, make([]byte, 0, 64), row('n', 9)[:0]} {
		d := made(t, 3)
		does(t, "Write", d.Write(1, none))
		shows(t, "P7.1: a Write of no byte", d, sight{letters(3), []int{1}, 5, false})
	}
}

func TestWriteChangesOneSector(t *testing.T) {
	const n = 6
	for i := range n {
		d := made(t, n)
		does(t, "Write", d.Write(i, row('X', 64)))
		want := letters(n)
		want[i] = string(row('X', 64))
		shows(t, "P7.1: one sector", d, sight{want, []int{i}, n + 2, false})
		lasts(t, "P7.1: it does not last yet", d, letters(n)...)
	}
}

func TestFlush(t *testing.T) {
	d := made(t, 3)
	does(t, "Write", d.Write(2, []byte("12")), d.Write(0, row('0', 64)), d.Write(2, []byte("3")))
	lasts(t, "P7.1: ahead of a Flush", d, letters(3)...)
	want := []string{string(row('0', 64)), string(row('b', 64)), "32" + string(row('c', 62))}
	does(t, "Flush", d.Flush())
	shows(t, "P7.1: behind a Flush", d, sight{want, nil, 8, false})
	lasts(t, "P7.1: behind a Flush", d, want...)
	does(t, "Flush", d.Flush(), d.Flush())
	shows(t, "P7.1: behind more of them", d, sight{want, nil, 10, false})
	lasts(t, "P7.1: behind more of them", d, want...)
	// What is written behind it is loose again.
	does(t, "Write", d.Write(1, []byte("4")))
	lasts(t, "P7.1: written behind a Flush", d, want...)
}

func TestFlushOfNothing(t *testing.T) {
	d := New(2)
	does(t, "Flush", d.Flush(), d.Flush())
	shows(t, "P7.1: Flushes alone", d, sight{[]string{of64(""), of64("")}, nil, 2, false})
}

func TestFlushOfAll(t *testing.T) {
	d := New(api.MaxDev)
	s := source(9)
	want := []string{}
	for range d.Len() {
		want = append(want, string(s.bytes(64)))
	}
	for i := d.Len() - 1; i >= 0; i-- {
		does(t, "Write", d.Write(i, []byte(want[i])))
	}
	does(t, "Flush", d.Flush())
	lasts(t, "P7.1: all sectors", d, want...)
}

// In whatever order it is written, it is told rising.
func TestLooseInAnyOrder(t *testing.T) {
	s := source(5)
	for range 300 {
		d := New(1 + s.below(40))
		written := []int{}
		for range s.below(60) {
			i := s.below(d.Len())
			does(t, "Write", d.Write(i, s.bytes(s.below(65))))
			written = append(written, i)
		}
		slices.Sort(written)
		if got := d.Loose(); !slices.Equal(got, slices.Compact(written)) {
			t.Fatalf("P7.1: Loose %v, want %v", got, slices.Compact(written))
		}
	}
}

func TestLooseOfAll(t *testing.T) {
	d := New(api.MaxDev)
	want := []int{}
	for i := range d.Len() {
		want = append(want, i)
		does(t, "Write", d.Write(d.Len()-1-i, nil))
	}
	if got := d.Loose(); !slices.Equal(got, want) {
		t.Errorf("P7.1: all are loose: %v", got)
	}
}

func TestLoose(t *testing.T) {
	d := made(t, 5)
	for _, x := range []struct {
		i    int
		b    []byte
		want []int
	}{
		{3, []byte("x"), []int{3}},
		{1, nil, []int{1, 3}},                // no byte is written, too
		{3, []byte("y"), []int{1, 3}},        // twice
		{0, row('a', 64), []int{0, 1, 3}},    // as it was
		{3, row('d', 64), []int{0, 1, 3}},    // back to what it was
		{4, []byte("z"), []int{0, 1, 3, 4}},  // the last one
		{1, []byte("zz"), []int{0, 1, 3, 4}}, // behind a Write of no byte
	} {
		if does(t, "Write", d.Write(x.i, x.b)); !slices.Equal(d.Loose(), x.want) {
			t.Errorf("P7.1: behind Write(%d, %q): Loose %v, want %v", x.i, x.b, d.Loose(), x.want)
		}
	}
	if d.Write(5, nil) != api.ErrRange || d.Write(2, make([]byte, 65)) != api.ErrForm || !slices.Equal(d.Loose(), []int{0, 1, 3, 4}) {
		t.Errorf("P7.1: refused Writes: Loose %v", d.Loose())
	}
	if does(t, "Flush", d.Flush()); len(d.Loose()) != 0 {
		t.Errorf("P7.1: behind a Flush: Loose %v", d.Loose())
	}
	if does(t, "Write", d.Write(3, nil)); !slices.Equal(d.Loose(), []int{3}) {
		t.Errorf("P7.1: written again: Loose %v", d.Loose())
	}
	d.Fuse(0)
	if d.Write(2, nil) != api.ErrDown || d.Flush() != api.ErrDown || !slices.Equal(d.Loose(), []int{3}) {
		t.Errorf("P7.1: a dead one: Loose %v", d.Loose())
	}
}

// Just the Writes and Flushes that were OK count.
func TestCalls(t *testing.T) {
	d := New(2)
	want := 0
	step := func(err, wantErr api.Errno) {
		t.Helper()
		if wantErr == api.OK {
			want++
		}
		if err != wantErr || d.Calls() != want {
			t.Errorf("P7.1: %d, want %d; Calls %d, want %d", err, wantErr, d.Calls(), want)
		}
	}
	for range 3 {
		step(d.Write(0, []byte("x")), api.OK)
		step(d.Write(1, nil), api.OK)
		step(d.Write(2, nil), api.ErrRange)
		step(d.Write(-1, make([]byte, 65)), api.ErrRange)
		step(d.Write(0, make([]byte, 65)), api.ErrForm)
		step(d.Flush(), api.OK)
		step(d.Flush(), api.OK)
		_, err := d.Read(5)
		if err != api.ErrRange {
			t.Errorf("P7.1: Read: %d", err)
		}
		d.Read(0)
		d.Loose()
		d.Len()
		d.Crash(true)
		d.Fuse(-1)
		d.Fuse(50)
		d.Dead()
	}
	d.Fuse(1)
	step(d.Write(1, []byte("y")), api.OK)
	step(d.Write(1, []byte("y")), api.ErrDown)
	step(d.Flush(), api.ErrDown)
	d.Fuse(-1)
	step(d.Write(2, make([]byte, 65)), api.ErrDown)
}

// dies asks that d is dead, and what it does then: nothing.
func dies(t *testing.T, what string, d *Dev) {
	t.Helper()
	if !d.Dead() {
		t.Errorf("P7.1: %s: it is not dead", what)
	}
	before, kept := see(t, d), see(t, d.Crash())
	for _, n := range []int{0, 1, 64, 65} {
		for _, i := range append(outside(d.Len()), 0, d.Len()-1) {
			if err := d.Write(i, row('n', n)); err != api.ErrDown {
				t.Errorf("P7.1: %s: a dead one's Write(%d) of %d bytes: %d", what, i, n, err)
			}
		}
	}
	if err := d.Flush(); err != api.ErrDown {
		t.Errorf("P7.1: %s: a dead one's Flush: %d", what, err)
	}
	shows(t, "P7.1: "+what+": a dead one", d, before)
	shows(t, "P7.1: "+what+": what lasts of a dead one", d.Crash(), kept)
}

// So many are done, whichever they are, and then it is dead at once.
func TestFuse(t *testing.T) {
	for n := range 12 {
		for which := range 1 << 6 {
			d := made(t, 3)
			d.Fuse(n)
			for k := range n {
				if d.Dead() {
					t.Fatalf("P7.1: Fuse(%d): dead behind %d", n, k)
				}
				err := api.OK
				if which>>(k%6)&1 == 0 {
					err = d.Write(k%3, []byte{byte(k)})
				} else {
					err = d.Flush()
				}
				does(t, "a fuse", err)
			}
			if d.Calls() != 4+n {
				t.Errorf("P7.1: Fuse(%d): Calls %d", n, d.Calls())
			}
			dies(t, "Fuse", d)
		}
	}
}

// The last call of a fuse is done whole.
func TestTheLastCallOfAFuse(t *testing.T) {
	d := made(t, 2)
	d.Fuse(1)
	does(t, "the last Write", d.Write(1, []byte("x")))
	dies(t, "behind a Write", d)
	shows(t, "P7.1: the last Write", d, sight{[]string{string(row('a', 64)), "x" + string(row('b', 63))}, []int{1}, 4, true})
	d = made(t, 2)
	does(t, "Write", d.Write(1, []byte("x")))
	d.Fuse(1)
	does(t, "the last Flush", d.Flush())
	dies(t, "behind a Flush", d)
	shows(t, "P7.1: the last Flush", d, sight{[]string{string(row('a', 64)), "x" + string(row('b', 63))}, nil, 5, true})
	lasts(t, "P7.1: the last Flush", d, string(row('a', 64)), "x"+string(row('b', 63)))
}

func TestFuseOfNought(t *testing.T) {
	d := New(2)
	d.Fuse(0)
	dies(t, "Fuse(0) of a new one", d)
	if d.Calls() != 0 {
		t.Errorf("P7.1: Fuse(0): Calls %d", d.Calls())
	}
	d = made(t, 2)
	does(t, "Write", d.Write(1, []byte("x")))
	d.Fuse(0)
	dies(t, "Fuse(0)", d)
	shows(t, "P7.1: Fuse(0)", d, sight{[]string{string(row('a', 64)), "x" + string(row('b', 63))}, []int{1}, 4, true})
}

// Writes that are refused are not done: they leave the fuse as it is.
func TestRefusedWritesLeaveTheFuse(t *testing.T) {
	d := New(2)
	d.Fuse(2)
	for k := range 2 {
		for range 5 {
			if err := d.Write(2, nil); err != api.ErrRange {
				t.Errorf("P7.1: Write to no sector: %d", err)
			}
			if err := d.Write(1, make([]byte, 65)); err != api.ErrForm {
				t.Errorf("P7.1: Write of too many: %d", err)
			}
			d.Read(0)
			d.Crash(true)
		}
		if d.Dead() || d.Calls() != k {
			t.Fatalf("P7.1: refused Writes: dead %v, Calls %d", d.Dead(), d.Calls())
		}
		does(t, "Write", d.Write(k, []byte("x")))
	}
	dies(t, "behind refused Writes", d)
}

func TestGreatFuses(t *testing.T) {
	for _, n := range []int{1000, 1 << 31, 1 << 32, 1 << 62, math.MaxInt64 - 1, math.MaxInt64} {
		d := New(1)
		d.Fuse(n)
		for k := range min(n, 3000) {
			if d.Dead() {
				t.Fatalf("P7.1: Fuse(%d): dead behind %d", n, k)
			}
			does(t, "a great fuse", d.Write(0, []byte{byte(k)}))
		}
		if d.Dead() != (n == 1000) || d.Calls() != min(n, 3000) {
			t.Errorf("P7.1: Fuse(%d): dead %v behind %d", n, d.Dead(), d.Calls())
		}
	}
}

func TestFuseBelowNought(t *testing.T) {
	for _, n := range []int{-1, -2, -7, -1 << 31, -1 << 32, math.MinInt64 + 1, math.MinInt64} {
		for _, first := range []int{-1, 1, 2, 5, math.MaxInt64} {
			d := New(1)
			d.Fuse(first)
			d.Fuse(n)
			for k := range 20 {
				does(t, "no fuse", d.Write(0, []byte{byte(k)}), d.Flush())
			}
			if d.Dead() || d.Calls() != 40 {
				t.Errorf("P7.1: Fuse(%d), Fuse(%d): dead %v, Calls %d", first, n, d.Dead(), d.Calls())
			}
			// And a new one counts from its own beginning.
			d.Fuse(1)
			does(t, "a new fuse", d.Flush())
			dies(t, "a new fuse", d)
		}
	}
	// The fuse is taken away when it is half burnt, too.
	d := New(1)
	d.Fuse(3)
	does(t, "half a fuse", d.Flush(), d.Flush())
	d.Fuse(-1)
	does(t, "no fuse", d.Flush(), d.Flush(), d.Flush())
	if d.Dead() {
		t.Error("P7.1: a fuse that was taken away")
	}
}

// The last Fuse counts, from where it was told.
func TestFuseAgain(t *testing.T) {
	for first := 1; first < 6; first++ {
		for burnt := range first {
			for second := range 6 {
				d := New(1)
				d.Fuse(first)
				for range burnt {
					does(t, "the first fuse", d.Flush())
				}
				d.Fuse(second)
				for range second {
					does(t, "the second fuse", d.Flush())
				}
				dies(t, "the second fuse", d)
				if d.Calls() != burnt+second {
					t.Errorf("P7.1: Fuse(%d), %d, Fuse(%d): Calls %d", first, burnt, second, d.Calls())
				}
			}
		}
	}
}

func TestWithoutAFuse(t *testing.T) {
	d := New(1)
	for k := range 5000 {
		does(t, "no fuse", d.Write(0, []byte{byte(k)}))
		if d.Dead() {
			t.Fatalf("P7.1: dead behind %d", k)
		}
	}
}

func TestADeadOneStaysDead(t *testing.T) {
	for _, n := range []int{-1, 0, 1, 2, 100, math.MinInt64, math.MaxInt64} {
		d := made(t, 2)
		does(t, "Write", d.Write(0, []byte("x")))
		d.Fuse(0)
		for range 3 {
			d.Fuse(n)
			dies(t, "whatever Fuse says", d)
		}
		d.Fuse(-1)
		d.Fuse(n)
		dies(t, "whatever Fuse says", d)
		e := made(t, 2)
		e.Fuse(2)
		does(t, "a fuse", e.Write(0, []byte("x")), e.Flush())
		e.Fuse(n)
		dies(t, "behind a fuse", e)
	}
}

// crashed is a device of four sectors, of which 0, 2 and 3 are loose.
func crashed(t *testing.T) (d *Dev, lasting, written []string) {
	t.Helper()
	d = made(t, 4)
	does(t, "Write", d.Write(3, []byte("1")), d.Write(0, row('2', 64)), d.Write(2, []byte("3")), d.Write(3, []byte("45")))
	lasting = letters(4)
	written = []string{string(row('2', 64)), lasting[1], "3" + lasting[2][1:], "45" + lasting[3][2:]}
	return d, lasting, written
}

// Each keep of up to six: fewer and more than there are loose ones.
func TestCrash(t *testing.T) {
	loose := []int{0, 2, 3}
	for n := range 7 {
		for bits := range 1 << n {
			d, lasting, written := crashed(t)
			before := see(t, d)
			keep := make([]bool, n)
			want := slices.Clone(lasting)
			for k := range keep {
				keep[k] = bits>>k&1 == 1
				if keep[k] && k < len(loose) {
					want[loose[k]] = written[loose[k]]
				}
			}
			c := d.Crash(keep...)
			if c == d {
				t.Fatal("P7.2: the same device")
			}
			shows(t, "P7.2: a Crash", c, sight{sectors: want})
			shows(t, "P7.2: the old one", d, before)
			// What it was found with lasts.
			lasts(t, "P7.2: a Crash of a Crash", c, want...)
			shows(t, "P7.2: a Crash of a Crash", c.Crash(true, true, true, true), sight{sectors: want})
		}
	}
}

func TestCrashWithNoKeep(t *testing.T) {
	d, lasting, _ := crashed(t)
	shows(t, "P7.2: no keep", d.Crash(), sight{sectors: lasting})
	shows(t, "P0.4: a nil keep", d.Crash([]bool(nil)...), sight{sectors: lasting})
	shows(t, "P0.4: an empty keep", d.Crash([]bool{}...), sight{sectors: lasting})
	// The room behind the list does not count.
	shows(t, "P7.2: spare room", d.Crash([]bool{true, true, true}[:0]...), sight{sectors: lasting})
}

func TestCrashWithALongKeep(t *testing.T) {
	d, lasting, written := crashed(t)
	keep := slices.Repeat([]bool{true}, 100000)
	shows(t, "P7.2: a long keep", d.Crash(keep...), sight{sectors: written})
	shows(t, "P7.2: a long keep of false", d.Crash(make([]bool, 100000)...), sight{sectors: lasting})
	copy(keep, []bool{false, false, false})
	shows(t, "P7.2: just those beyond", d.Crash(keep...), sight{sectors: lasting})
}

func TestCrashOfANewOne(t *testing.T) {
	for _, n := range []int{1, 3, 2048} {
		want := sight{sectors: slices.Repeat([]string{of64("")}, n)}
		shows(t, "P7.2: a new one", New(n).Crash(), want)
		shows(t, "P7.2: a new one", New(n).Crash(true, false, true), want)
	}
}

// The sectors are counted by Loose, in whatever order they were written.
func TestCrashOfManyLooseOnes(t *testing.T) {
	s := source(11)
	for range 40 {
		n := 1 + s.below(200)
		d := New(n)
		lasting, written := make([]string, n), make([]string, n)
		for i := range n {
			lasting[i] = string(s.bytes(64))
			does(t, "Write", d.Write(i, []byte(lasting[i])))
			written[i] = lasting[i]
		}
		does(t, "Flush", d.Flush())
		for range s.below(2 * n) {
			i := s.below(n)
			written[i] = string(s.bytes(64))
			does(t, "Write", d.Write(i, []byte(written[i])))
		}
		keep := s.bools(s.below(n + 10))
		want := slices.Clone(lasting)
		for k, i := range d.Loose() {
			if k < len(keep) && keep[k] {
				want[i] = written[i]
			}
		}
		shows(t, "P7.2: many loose ones", d.Crash(keep...), sight{sectors: want})
	}
}

func TestCrashOfADeadDevice(t *testing.T) {
	d, lasting, written := crashed(t)
	d.Fuse(0)
	d.Write(1, row('n', 64))
	d.Write(0, row('n', 64))
	d.Flush()
	shows(t, "P7.2: of a dead one", d.Crash(), sight{sectors: lasting})
	c := d.Crash(true, true, true)
	shows(t, "P7.2: of a dead one", c, sight{sectors: written})
	// It is alive, without a fuse; the old one is dead.
	for k := range 50 {
		does(t, "alive", c.Write(k%4, []byte{byte(k)}), c.Flush())
	}
	if c.Dead() || c.Calls() != 100 {
		t.Errorf("P7.2: dead %v, Calls %d", c.Dead(), c.Calls())
	}
	dies(t, "the old one", d)
}

func TestCrashTakesTheFuseAway(t *testing.T) {
	for n := 1; n < 5; n++ {
		d := made(t, 2)
		d.Fuse(n)
		c := d.Crash()
		for range 10 {
			does(t, "without a fuse", c.Write(1, []byte("x")))
		}
		if c.Dead() || d.Dead() {
			t.Errorf("P7.2: dead %v, the old one %v", c.Dead(), d.Dead())
		}
		// The old one's fuse is as long as it was.
		for range n {
			does(t, "the old one's fuse", d.Flush())
		}
		dies(t, "the old one's fuse", d)
	}
}

// What lasts is what was there at the last Flush, not at one ahead of it, nor
// what was written since.
func TestCrashOfASectorWrittenAgain(t *testing.T) {
	d := New(2)
	does(t, "Write", d.Write(0, []byte("abc")), d.Flush(), d.Write(0, []byte("de")), d.Flush(), d.Write(0, []byte("f")), d.Write(0, []byte("\x00g")))
	lasts(t, "P7.2: written again", d, of64("dec"), of64(""))
	shows(t, "P7.2: written again", d.Crash(true), sight{sectors: []string{of64("\x00gc"), of64("")}})
	does(t, "Flush", d.Flush())
	lasts(t, "P7.2: flushed again", d, of64("\x00gc"), of64(""))
	// A dead one's Write counts for nothing.
	d.Fuse(1)
	does(t, "the last Write", d.Write(0, []byte("h")))
	d.Write(0, []byte("i"))
	d.Flush()
	lasts(t, "P7.2: a dead one", d, of64("\x00gc"), of64(""))
	shows(t, "P7.2: a dead one", d.Crash(true), sight{sectors: []string{of64("hgc"), of64("")}})
}

// The two go their own ways.
func TestCrashSharesNothing(t *testing.T) {
	d, lasting, written := crashed(t)
	before := see(t, d)
	c := d.Crash(false, true)
	want := slices.Clone(lasting)
	want[2] = written[2]
	for i := range 4 {
		does(t, "the new one", c.Write(i, row('N', 64)))
		if i == 1 {
			does(t, "the new one", c.Flush())
		}
	}
	c.Fuse(0)
	shows(t, "P7.2: the old one stays", d, before)
	lasts(t, "P7.2: the old one stays", d, lasting...)
	shows(t, "P7.2: the old one stays", d.Crash(true, true, true), sight{sectors: written})
	e := d.Crash(false, true)
	for i := range 4 {
		does(t, "the old one", d.Write(i, row('O', 64)))
	}
	does(t, "the old one", d.Flush(), d.Write(0, []byte("p")))
	shows(t, "P7.2: the new one stays", e, sight{sectors: want})
	lasts(t, "P7.2: the new one stays", e, want...)
	full := string(row('N', 64))
	lasts(t, "P7.2: what lasts of the new one", c, full, full, written[2], lasting[3])
}

func TestCrashOfACrash(t *testing.T) {
	d := New(3)
	want := []string{of64(""), of64(""), of64("")}
	for k := range 20 {
		kept, lost := k%3, (k+1+k%2)%3
		b := row(byte('a'+k), 64)
		does(t, "Write", d.Write(lost, row('n', 64)), d.Write(kept, b))
		want[kept] = string(b)
		d = d.Crash(kept < lost, kept > lost)
		shows(t, "P7.2: a Crash of a Crash", d, sight{sectors: want})
	}
}

func TestANilDevice(t *testing.T) {
	var d *Dev
	for _, n := range []int{0, 1, -1, math.MinInt64, math.MaxInt64} {
		d.Fuse(n)
		for _, i := range append(outside(1), 0) {
			if b, err := d.Read(i); len(b) != 0 || err != api.ErrDown {
				t.Errorf("P7.2: a nil one's Read(%d) = %x, %d", i, b, err)
			}
			for _, length := range []int{0, 1, 64, 65} {
				if err := d.Write(i, make([]byte, length)); err != api.ErrDown {
					t.Errorf("P7.2: a nil one's Write(%d) of %d bytes: %d", i, length, err)
				}
			}
			if err := d.Write(i, nil); err != api.ErrDown {
				t.Errorf("P7.2: a nil one's Write(%d): %d", i, err)
			}
		}
		if err := d.Flush(); err != api.ErrDown {
			t.Errorf("P7.2: a nil one's Flush: %d", err)
		}
		if d.Len() != 0 || len(d.Loose()) != 0 || d.Calls() != 0 || !d.Dead() {
			t.Errorf("P7.2: a nil one: %d, %v, %d, %v", d.Len(), d.Loose(), d.Calls(), d.Dead())
		}
		if d.Crash() != nil || d.Crash(true) != nil || d.Crash(make([]bool, 100)...) != nil {
			t.Error("P7.2: a nil one's Crash")
		}
	}
}

// A device that New did not make has no sector; all calls of it end.
func TestADeviceOfNoSector(t *testing.T) {
	for _, d := range []*Dev{{}, new(Dev), new(Dev).Crash(true)} {
		for _, i := range append(outside(1), 0) {
			if b, err := d.Read(i); len(b) != 0 || err != api.ErrRange {
				t.Errorf("P0.1: Read(%d) = %x, %d", i, b, err)
			}
			if err := d.Write(i, make([]byte, 65)); err != api.ErrRange {
				t.Errorf("P0.1: Write(%d): %d", i, err)
			}
		}
		does(t, "no sector", d.Flush(), d.Flush())
		shows(t, "P0.1: no sector", d, sight{calls: 2})
		shows(t, "P0.1: no sector", d.Crash(true, true), sight{})
		d.Fuse(1)
		does(t, "no sector", d.Flush())
		dies(t, "no sector", d)
	}
}

func TestWriteLeavesTheArgumentAlone(t *testing.T) {
	for _, n := range []int{0, 1, 5, 63, 64, 65, 100} {
		d := made(t, 2)
		room := row(7, 200)
		before := bytes.Clone(room)
		err := d.Write(1, room[:n])
		seen := see(t, d)
		if !bytes.Equal(room, before) {
			t.Fatalf("P0.3: Write of %d bytes, %d: the argument or its spare room was written", n, err)
		}
		spoil(room)
		shows(t, "P0.3: the argument was kept", d, seen)
		spoil(room)
		d.Flush()
		d.Write(1, []byte("other"))
		d.Write(1, row('x', 64))
		d.Crash(true)
		if !bytes.Equal(room, before) {
			t.Fatalf("P0.3: Write of %d bytes, %d: the argument was written later on", n, err)
		}
	}
}

func TestReadAnswersACopy(t *testing.T) {
	d := made(t, 3)
	does(t, "Write", d.Write(1, []byte("x")))
	before, kept := see(t, d), see(t, d.Crash())
	for range 2 {
		for i := range 3 {
			a, _ := d.Read(i)
			b, _ := d.Read(i)
			want := bytes.Clone(a)
			spoil(b)
			if !bytes.Equal(a, want) {
				t.Errorf("P0.3: two answers of Read(%d) share memory", i)
			}
			spoil(a)
			if c, _ := d.Read(i); !bytes.Equal(c, want) {
				t.Errorf("P0.3: what was written into an answer of Read(%d) shows", i)
			}
		}
		shows(t, "P0.3: behind what was written into answers", d, before)
		shows(t, "P0.3: behind what was written into answers", d.Crash(), kept)
		// Likewise of one that all lasts of.
		does(t, "Flush", d.Flush())
		before, kept = see(t, d), see(t, d.Crash())
	}
	// What was told stays as it was told.
	a, _ := d.Read(1)
	want := bytes.Clone(a)
	does(t, "Write", d.Write(1, []byte("yz")), d.Flush(), d.Write(1, row('w', 64)))
	if !bytes.Equal(a, want) {
		t.Error("P0.3: a Write shows in what Read answered ahead of it")
	}
}

func TestReadOfACrashIsACopy(t *testing.T) {
	d, lasting, written := crashed(t)
	c := d.Crash(true, true, true)
	for i := range 4 {
		for _, x := range []*Dev{c, d} {
			b, _ := x.Read(i)
			spoil(b)
		}
	}
	shows(t, "P0.3: a Crash", c, sight{sectors: written})
	lasts(t, "P0.3: the old one", d, lasting...)
}

func TestLooseAnswersACopy(t *testing.T) {
	d, lasting, written := crashed(t)
	a, b := d.Loose(), d.Loose()
	for _, l := range [][]int{b, d.Loose()} {
		l = l[:cap(l)]
		for i := range l {
			l[i] = -77
		}
	}
	if want := []int{0, 2, 3}; !slices.Equal(a, want) || !slices.Equal(d.Loose(), want) {
		t.Errorf("P0.3: Loose %v, %v", a, d.Loose())
	}
	shows(t, "P0.3: behind what was written into Loose", d.Crash(true, true, true), sight{sectors: written})
	lasts(t, "P0.3: behind what was written into Loose", d, lasting...)
	does(t, "Write", d.Write(1, nil), d.Flush())
	if want := []int{0, 2, 3}; !slices.Equal(a, want) {
		t.Errorf("P0.3: Loose %v is %v behind a Flush", want, a)
	}
}

func TestCrashLeavesTheKeepAlone(t *testing.T) {
	d, lasting, written := crashed(t)
	room := []bool{true, false, true, false, true, true, false, true}
	before := slices.Clone(room)
	for n := range len(room) + 1 {
		c := d.Crash(room[:n]...)
		if !slices.Equal(room, before) {
			t.Fatalf("P0.3: keep is %v", room)
		}
		seen := see(t, c)
		for i := range room {
			room[i] = !room[i]
		}
		shows(t, "P0.3: the keep was kept", c, seen)
		copy(room, before)
	}
	want := []string{written[0], lasting[1], lasting[2], written[3]}
	shows(t, "P7.2: a keep", d.Crash(room...), sight{sectors: want})
}

// model is the chapter's device, as plainly as it can be said.
type model struct {
	now, last []string
	loose     []bool
	calls     int
	fuse      int // below 0: none
}

func newModel(n int) *model {
	none := slices.Repeat([]string{of64("")}, n)
	return &model{now: none, last: slices.Clone(none), loose: make([]bool, n), fuse: -1}
}

func (m *model) done() api.Errno {
	m.calls++
	if m.fuse > 0 {
		m.fuse--
	}
	return api.OK
}

func (m *model) write(i int, b []byte) api.Errno {
	switch {
	case m.fuse == 0:
		return api.ErrDown
	case i < 0 || i >= len(m.now):
		return api.ErrRange
	case len(b) > 64:
		return api.ErrForm
	}
	m.now[i] = string(b) + m.now[i][len(b):]
	m.loose[i] = true
	return m.done()
}

func (m *model) flush() api.Errno {
	if m.fuse == 0 {
		return api.ErrDown
	}
	copy(m.last, m.now)
	clear(m.loose)
	return m.done()
}

func (m *model) setFuse(n int) {
	if m.fuse != 0 {
		m.fuse = max(n, -1)
	}
}

func (m *model) sight() sight {
	s := sight{sectors: m.now, calls: m.calls, dead: m.fuse == 0}
	for i, l := range m.loose {
		if l {
			s.loose = append(s.loose, i)
		}
	}
	return s
}

func (m *model) crash(keep []bool) *model {
	c := newModel(len(m.now))
	copy(c.last, m.last)
	k := 0
	for i, l := range m.loose {
		if !l {
			continue
		}
		if k < len(keep) && keep[k] {
			c.last[i] = m.now[i]
		}
		k++
	}
	copy(c.now, c.last)
	return c
}

// step does one thing to both, and asks that they answer the same; it answers
// those that are gone on with.
func step(t *testing.T, s *source, d *Dev, m *model) (*Dev, *model) {
	t.Helper()
	n := len(m.now)
	got, want := api.OK, api.OK
	switch k := s.below(100); {
	case k < 60:
		i, b := s.below(n+2)-1, s.bytes(s.below(67))
		got, want = d.Write(i, b), m.write(i, b)
	case k < 75:
		got, want = d.Flush(), m.flush()
	case k < 80:
		f := s.below(30) - 8
		d.Fuse(f)
		m.setFuse(f)
	case k < 95:
		keep := s.bools(s.below(n + 3))
		shows(t, "P7.2: held against the model", d.Crash(keep...), m.crash(keep).sight())
	default:
		keep := s.bools(s.below(n + 3))
		d, m = d.Crash(keep...), m.crash(keep)
	}
	if got != want {
		t.Errorf("P7.1: held against the model: %d, want %d", got, want)
	}
	shows(t, "P7.1: held against the model", d, m.sight())
	return d, m
}

func TestAgainstTheModel(t *testing.T) {
	for seed := range 60 {
		s := source(1 + seed)
		n := 1 + s.below(9)
		d, m := New(n), newModel(n)
		for range 400 {
			d, m = step(t, &s, d, m)
			if t.Failed() {
				t.Fatalf("seed %d", seed)
			}
		}
	}
}

// Two devices that are told the same answer the same.
func TestTwoAlike(t *testing.T) {
	a, b := New(20), New(20)
	s := source(77)
	for range 2000 {
		i, l := s.below(20), s.bytes(s.below(65))
		if a.Write(i, l) != b.Write(i, l) {
			t.Fatal("P0.5: Write")
		}
		if s.below(40) == 0 && a.Flush() != b.Flush() {
			t.Fatal("P0.5: Flush")
		}
		keep := s.bools(20)
		if !slices.Equal(a.Loose(), b.Loose()) || !see(t, a.Crash(keep...)).is(see(t, b.Crash(keep...))) {
			t.Fatal("P0.5: Loose, Crash")
		}
	}
	if !see(t, a).is(see(t, b)) {
		t.Error("P0.5: two alike")
	}
}
