package page

import (
	"bytes"
	"fmt"
	"math"
	"slices"
	"testing"

	"engross/api"
	"engross/dev"
)

// source is a small generator, so that every run tries the same inputs.
type source uint64

func (s *source) next() uint64 {
	*s ^= *s << 13
	*s ^= *s >> 7
	*s ^= *s << 17
	return uint64(*s)
}

func (s *source) below(n int) int { return int(s.next() >> 8 % uint64(n)) }

func (s *source) bytes(n int) []byte {
	b := make([]byte, n)
	for i := range b {
		b[i] = byte(s.next() >> 16)
	}
	return b
}

func (s *source) bools(n int) []bool {
	l := make([]bool, n)
	for i := range l {
		l[i] = s.below(2) == 1
	}
	return l
}

// spoil writes all over b, its spare room too.
func spoil(b []byte) {
	b = b[:cap(b)]
	for i := range b {
		b[i] ^= 0xa5
	}
}

// noPages are numbers that no page has. Of some the first sector, worked out
// without care, would wrap into the device.
func noPages() []int {
	return []int{
		-1, -2, -95, -96, -97, 96, 97, 100, 128, 192, 256, 351, 352, 511, 512, 1 << 16, 1 << 31, 1 << 32, 1<<32 + 1, -1 << 32,
		1 << 40, 1 << 61, 1 << 62, 1<<62 + 1, 1<<62 + 95, -1 << 62, -1<<62 + 1, -1 << 61,
		math.MaxInt64, math.MaxInt64 - 1, math.MinInt64, math.MinInt64 + 1,
	}
}

// noTexts are texts that no page has.
func noTexts() [][]byte {
	l := [][]byte{nil, {}, make([]byte, 0, 256), make([]byte, 255, 256), make([]byte, 257), make([]byte, 255, 600)}
	for _, n := range []int{1, 2, 63, 64, 65, 128, 192, 255, 257, 258, 320, 511, 512, 1024, 1 << 16, 1<<16 + 256} {
		l = append(l, bytes.Repeat([]byte{'n'}, n))
	}
	return l
}

// sight is all that a device shows.
type sight struct {
	sectors []string
	loose   []int
	calls   int
	dead    bool
}

func see(d *dev.Dev) sight {
	s := sight{loose: d.Loose(), calls: d.Calls(), dead: d.Dead()}
	for i := range d.Len() {
		b, _ := d.Read(i)
		s.sectors = append(s.sectors, string(b))
	}
	return s
}

// shows asks that d shows want.
func shows(t *testing.T, what string, d *dev.Dev, want sight) {
	t.Helper()
	got := see(d)
	if !slices.Equal(got.loose, want.loose) || got.calls != want.calls || got.dead != want.dead || len(got.sectors) != len(want.sectors) {
		t.Fatalf("%s: %d sectors, loose %v, calls %d, dead %v; want %d, %v, %d, %v",
			what, len(got.sectors), got.loose, got.calls, got.dead, len(want.sectors), want.loose, want.calls, want.dead)
	}
	for i := range got.sectors {
		if got.sectors[i] != want.sectors[i] {
			t.Fatalf("%s: the sector %d: %x, want %x", what, i, got.sectors[i], want.sectors[i])
		}
	}
}

// wrote is what a device that showed s shows when the sectors of the page no
// got the beginning of b: n sectors of it.
func (s sight) wrote(no, n int, b []byte) sight {
	s.sectors, s.loose = slices.Clone(s.sectors), slices.Clone(s.loose)
	for k := range n {
		i := 2 + 4*no + k
		s.sectors[i] = string(b[64*k : 64*k+64])
		if !slices.Contains(s.loose, i) {
			s.loose = append(s.loose, i)
		}
	}
	slices.Sort(s.loose)
	s.calls += n
	return s
}

// lost is what is found behind a crash that keeps nothing of what is loose;
// flushed shows what lasts.
func lost(flushed sight) sight { return sight{sectors: flushed.sectors} }

// filled is a device of n sectors, each with bytes of its own, flushed.
func filled(t *testing.T, n int) *dev.Dev {
	t.Helper()
	d := dev.New(n)
	s := source(n)
	for i := range n {
		if d.Write(i, s.bytes(64)) != api.OK {
			t.Fatalf("filled: sector %d", i)
		}
	}
	if d.Flush() != api.OK {
		t.Fatal("filled: Flush")
	}
	return d
}

func writes(t *testing.T, d *dev.Dev, no int, b []byte) {
	t.Helper()
	if err := Write(d, no, b); err != api.OK {
		t.Fatalf("P9.1: Write(%d): %d", no, err)
	}
}

// reads asks that Read answers want, and changes nothing.
func reads(t *testing.T, what string, d *dev.Dev, no int, want []byte) {
	t.Helper()
	if len(want) != 256 {
		t.Fatalf("%s: a page of %d bytes", what, len(want))
	}
	before := see(d)
	if b, err := Read(d, no); err != api.OK || !bytes.Equal(b, want) {
		t.Fatalf("%s: Read(%d) = %x, %d, want %x", what, no, b, err, want)
	}
	shows(t, what+": behind Read", d, before)
}

// readsNot asks that Read answers the error and nothing beside it, and changes
// nothing.
func readsNot(t *testing.T, what string, d *dev.Dev, no int, want api.Errno) {
	t.Helper()
	before := see(d)
	if b, err := Read(d, no); b != nil || err != want {
		t.Fatalf("%s: Read(%d) = %x, %d, want error %d", what, no, b, err, want)
	}
	shows(t, what+": behind Read", d, before)
}

// writesNot asks that Write answers the error and does nothing.
func writesNot(t *testing.T, what string, d *dev.Dev, no int, b []byte, want api.Errno) {
	t.Helper()
	before := see(d)
	if err := Write(d, no, b); err != want {
		t.Fatalf("%s: Write(%d) of %d bytes = %d, want %d", what, no, len(b), err, want)
	}
	shows(t, what+": behind Write", d, before)
}

func TestReadOfNoughts(t *testing.T) {
	for _, n := range []int{386, 1410, 2048} {
		d := dev.New(n)
		for no := range 96 {
			reads(t, "P9.1: never written", d, no, make([]byte, 256))
		}
	}
}

// What stands in the sectors is told, whoever wrote it.
func TestReadOfSectors(t *testing.T) {
	for _, n := range []int{386, 1410, 2048} {
		d := filled(t, n)
		now := see(d)
		for no := range 96 {
			want := now.sectors[2+4*no] + now.sectors[3+4*no] + now.sectors[4+4*no] + now.sectors[5+4*no]
			reads(t, "P9.1: the page's sectors", d, no, []byte(want))
		}
	}
}

func TestReadOfALooseSector(t *testing.T) {
	d := filled(t, 386)
	now := see(d)
	for k := range 4 {
		c := d.Crash()
		b := []byte(now.sectors[30] + now.sectors[31] + now.sectors[32] + now.sectors[33])
		copy(b[64*k:], "loose")
		if c.Write(30+k, []byte("loose")) != api.OK {
			t.Fatal("loose")
		}
		reads(t, "P9.1: a loose sector", c, 7, b)
	}
}

func TestWriteOfEachPage(t *testing.T) {
	for _, n := range []int{386, 1410, 2048} {
		d := filled(t, n)
		s := source(n + 1)
		want := map[int][]byte{}
		for no := range 96 {
			b, err := Read(d, no)
			if err != api.OK {
				t.Fatalf("P9.1: Read(%d): %d", no, err)
			}
			want[no] = b
		}
		for no := range 96 {
			b := s.bytes(256)
			before := see(d)
			writes(t, d, no, b)
			want[no] = b
			shows(t, fmt.Sprintf("P9.1: Write(%d)", no), d, before.wrote(no, 4, b))
			for other := range 96 {
				if got, err := Read(d, other); err != api.OK || !bytes.Equal(got, want[other]) {
					t.Fatalf("P9.1: behind Write(%d) Read(%d) = %x, %d, want %x", no, other, got, err, want[other])
				}
			}
		}
	}
}

// The numbers are written out: they are the document's, not the program's.
func TestWhereAPageStands(t *testing.T) {
	for no, first := range map[int]int{0: 2, 1: 6, 2: 10, 31: 126, 32: 130, 50: 202, 94: 378, 95: 382} {
		d := filled(t, 1410)
		before := see(d)
		b := bytes.Repeat([]byte("0123456789abcdef"), 16)
		b[0], b[63], b[64], b[127], b[128], b[191], b[192], b[255] = 1, 2, 3, 4, 5, 6, 7, 8
		writes(t, d, no, b)
		after := see(d)
		for i := range after.sectors {
			want := before.sectors[i]
			if i >= first && i <= first+3 {
				want = string(b[64*(i-first) : 64*(i-first)+64])
			}
			if after.sectors[i] != want {
				t.Fatalf("P9.1: Write(%d): the sector %d: %x, want %x", no, i, after.sectors[i], want)
			}
		}
		if !slices.Equal(after.loose, []int{first, first + 1, first + 2, first + 3}) {
			t.Fatalf("P9.1: Write(%d): loose %v", no, after.loose)
		}
	}
}

// All pages together leave the sectors ahead of them and behind them alone.
func TestSectorsOfNoPage(t *testing.T) {
	d := filled(t, 2048)
	before := see(d)
	for no := range 96 {
		writes(t, d, no, bytes.Repeat([]byte{byte(no)}, 256))
	}
	after := see(d)
	for i := range after.sectors {
		isPage := i >= 2 && i <= 385
		if slices.Contains(after.loose, i) != isPage || (after.sectors[i] != before.sectors[i]) != isPage {
			t.Fatalf("P9.1: the sector %d: written %v", i, slices.Contains(after.loose, i))
		}
	}
	if after.calls != before.calls+4*96 {
		t.Errorf("P9.1: %d calls", after.calls-before.calls)
	}
}

// A page may be written over, with all of its bytes, noughts too.
func TestWriteOver(t *testing.T) {
	d := dev.New(1410)
	for _, b := range [][]byte{
		bytes.Repeat([]byte{0xff}, 256), make([]byte, 256), bytes.Repeat([]byte("ab"), 128), bytes.Repeat([]byte("ab"), 128), make([]byte, 256),
	} {
		before := see(d)
		writes(t, d, 40, b)
		shows(t, "P9.1: written over", d, before.wrote(40, 4, b))
		reads(t, "P9.1: written over", d, 40, b)
	}
}

func TestWriteOfOtherLengths(t *testing.T) {
	for _, b := range noTexts() {
		for _, fuse := range []int{-1, 0, 2} {
			d := filled(t, 386)
			d.Fuse(fuse)
			for _, no := range append(noPages(), 0, 1, 50, 94, 95) {
				writesNot(t, "P9.1: another length", d, no, b, api.ErrForm)
			}
		}
		for _, no := range append(noPages(), 0, 95) {
			writesNot(t, "P0.2: another length, no device", nil, no, b, api.ErrForm)
			writesNot(t, "P0.2: another length, a small device", dev.New(1), no, b, api.ErrForm)
		}
	}
}

// The room behind the bytes does not count.
func TestWriteWithSpareRoom(t *testing.T) {
	s := source(5)
	for _, room := range []int{256, 257, 512, 1000} {
		d := filled(t, 386)
		before := see(d)
		b := s.bytes(room)[:256]
		writes(t, d, 9, b)
		shows(t, "P9.1: spare room", d, before.wrote(9, 4, b))
	}
}

func TestOtherNumbers(t *testing.T) {
	for _, n := range []int{1, 3, 386, 400, 1410, 2048} {
		for _, fuse := range []int{-1, 0, 3} {
			d := filled(t, n)
			d.Fuse(fuse)
			for _, no := range noPages() {
				readsNot(t, "P9.1: no page", d, no, api.ErrRange)
				writesNot(t, "P9.1: no page", d, no, bytes.Repeat([]byte{'n'}, 256), api.ErrRange)
			}
		}
	}
}

func TestWriteIsNotFlushed(t *testing.T) {
	for _, no := range []int{0, 1, 31, 32, 77, 95} {
		d := filled(t, 1410)
		flushed := see(d)
		s := source(no + 1)
		b := s.bytes(256)
		old, _ := Read(d, no)
		writes(t, d, no, b)
		if l := d.Loose(); !slices.Equal(l, []int{2 + 4*no, 3 + 4*no, 4 + 4*no, 5 + 4*no}) {
			t.Fatalf("P9.1: Write(%d): loose %v", no, l)
		}
		if n := d.Calls() - flushed.calls; n != 4 {
			t.Fatalf("P9.1: Write(%d): %d calls", no, n)
		}
		shows(t, "P9.1: a crash ahead of a Flush", d.Crash(), lost(flushed))
		reads(t, "P9.1: a crash ahead of a Flush", d.Crash(), no, old)
		reads(t, "P9.1: a crash that keeps all", d.Crash(true, true, true, true), no, b)
		for k := range 4 {
			keep := make([]bool, 4)
			keep[k] = true
			want := slices.Clone(old)
			copy(want[64*k:64*k+64], b[64*k:])
			reads(t, "P9.1: a crash that keeps one", d.Crash(keep...), no, want)
		}
		if d.Flush() != api.OK {
			t.Fatal("Flush")
		}
		reads(t, "P9.1: a crash behind a Flush", d.Crash(), no, b)
	}
}

// Bytes that a page has already are written all the same.
func TestWriteOfTheSameBytes(t *testing.T) {
	d := dev.New(386)
	writes(t, d, 0, make([]byte, 256))
	if l := d.Loose(); !slices.Equal(l, []int{2, 3, 4, 5}) || d.Calls() != 4 {
		t.Errorf("P9.1: noughts over noughts: loose %v, calls %d", l, d.Calls())
	}
}

// A Write takes what is left of the fuse, and what it did ahead is done.
func TestWriteWithAFuse(t *testing.T) {
	s := source(11)
	for fuse := range 10 {
		for _, no := range []int{0, 3, 95} {
			d := filled(t, 386)
			flushed := see(d)
			b := s.bytes(256)
			d.Fuse(fuse)
			want := api.OK
			if fuse < 4 {
				want = api.ErrDown
			}
			if err := Write(d, no, b); err != want {
				t.Fatalf("P9.1: a fuse of %d: Write(%d) = %d, want %d", fuse, no, err, want)
			}
			after := flushed.wrote(no, min(fuse, 4), b)
			after.dead = fuse <= 4
			shows(t, fmt.Sprintf("P9.1: a fuse of %d", fuse), d, after)
			shows(t, "P9.1: and a crash", d.Crash(), lost(flushed))
			shows(t, "P9.1: and a crash that keeps all", d.Crash(true, true, true, true), lost(after))
			if n := fuse - 4; n >= 0 {
				next := s.bytes(256)
				Write(d, 50, next)
				after = after.wrote(50, min(n, 4), next)
				after.dead = n <= 4
				shows(t, "P9.1: what is left of the fuse", d, after)
			}
		}
	}
}

func TestADeadDevice(t *testing.T) {
	d := filled(t, 386)
	s := source(3)
	b := s.bytes(256)
	writes(t, d, 8, b)
	d.Fuse(0)
	for no := range 96 {
		writesNot(t, "P9.1: a dead device", d, no, bytes.Repeat([]byte{'n'}, 256), api.ErrDown)
	}
	reads(t, "P9.1: a dead device still can be read", d, 8, b)
	for range 2 {
		d.Fuse(-1)
		writesNot(t, "P9.1: a dead device stays dead", d, 8, s.bytes(256), api.ErrDown)
	}
}

func TestASmallDevice(t *testing.T) {
	s := source(17)
	for n := 1; n <= 386; n++ {
		d := filled(t, n)
		for _, no := range []int{0, 1, (n - 2) / 4, (n-2)/4 + 1, 94, 95} {
			if no < 0 || no > 95 {
				continue
			}
			has := min(max(n-2-4*no, 0), 4)
			b := s.bytes(256)
			before := see(d)
			if has == 4 {
				writes(t, d, no, b)
				reads(t, "P9.1: a small device", d, no, b)
			} else {
				readsNot(t, "P9.1: a small device", d, no, api.ErrRange)
				if err := Write(d, no, b); err != api.ErrRange {
					t.Fatalf("P9.1: of %d sectors Write(%d) = %d", n, no, err)
				}
				readsNot(t, "P9.1: a part of a page", d, no, api.ErrRange)
			}
			shows(t, fmt.Sprintf("P9.1: of %d sectors, Write(%d)", n, no), d, before.wrote(no, has, b))
		}
	}
}

// The device's first error counts: of a part of a page its end or its fuse,
// whichever is met first.
func TestASmallDeviceWithAFuse(t *testing.T) {
	s := source(23)
	for has := range 4 {
		for fuse := range 6 {
			d := filled(t, 6+has)
			before := see(d)
			b := s.bytes(256)
			d.Fuse(fuse)
			want := api.ErrRange
			// A device that the last sector killed is dead ahead of its end.
			if fuse <= has {
				want = api.ErrDown
			}
			if err := Write(d, 1, b); err != want {
				t.Fatalf("P9.1: %d sectors of it, a fuse of %d: %d, want %d", has, fuse, err, want)
			}
			after := before.wrote(1, min(has, fuse), b)
			after.dead = fuse <= has
			shows(t, "P9.1: a small device with a fuse", d, after)
		}
	}
}

func TestNoDevice(t *testing.T) {
	for no := range 96 {
		readsNot(t, "P9.1: no device", nil, no, api.ErrDown)
		writesNot(t, "P9.1: no device", nil, no, make([]byte, 256), api.ErrDown)
	}
	for _, no := range noPages() {
		readsNot(t, "P0.2: no device, no page", nil, no, api.ErrRange)
		writesNot(t, "P0.2: no device, no page", nil, no, make([]byte, 256), api.ErrRange)
	}
}

func TestWhatIsHandedInIsNotKept(t *testing.T) {
	s := source(29)
	d := filled(t, 386)
	before := see(d)
	whole := s.bytes(700)
	kept := slices.Clone(whole)
	b := whole[100:356]
	writes(t, d, 12, b)
	if !bytes.Equal(whole, kept) {
		t.Fatal("P0.3: Write changed what it was handed")
	}
	spoil(whole)
	shows(t, "P0.3: what was handed in is spoilt", d, before.wrote(12, 4, kept[100:356]))
	if d.Flush() != api.OK {
		t.Fatal("Flush")
	}
	spoil(whole)
	reads(t, "P0.3: what was handed in is spoilt", d, 12, kept[100:356])
}

// A Write that is refused leaves its argument alone too.
func TestWhatIsHandedInToARefusedWrite(t *testing.T) {
	s := source(31)
	for _, n := range []int{0, 255, 256, 257} {
		for _, d := range []*dev.Dev{nil, dev.New(3), dev.New(386)} {
			whole := s.bytes(400)
			kept := slices.Clone(whole)
			Write(d, 96, whole[:n])
			d.Fuse(1)
			Write(d, 0, whole[:n])
			if !bytes.Equal(whole, kept) {
				t.Fatalf("P0.3: a refused Write of %d bytes changed them", n)
			}
		}
	}
}

func TestWhatIsToldIsNew(t *testing.T) {
	s := source(37)
	d := dev.New(386)
	b := s.bytes(256)
	writes(t, d, 12, b)
	for range 2 {
		now := see(d)
		one, _ := Read(d, 12)
		two, _ := Read(d, 12)
		other, _ := Read(d, 13)
		spoil(one)
		if !bytes.Equal(two, b) || !bytes.Equal(other, make([]byte, 256)) {
			t.Fatal("P0.3: two answers share memory")
		}
		spoil(other)
		shows(t, "P0.3: what was told is spoilt", d, now)
		reads(t, "P0.3: what was told is spoilt", d, 12, b)
		reads(t, "P0.3: what was told is spoilt", d, 13, make([]byte, 256))
		if d.Flush() != api.OK {
			t.Fatal("Flush")
		}
	}
	// An answer stays as it was told, whatever is written behind it.
	told, _ := Read(d, 12)
	writes(t, d, 12, s.bytes(256))
	if !bytes.Equal(told, b) {
		t.Error("P0.3: a Write changed what was told")
	}
	// An answer may be handed in again.
	writes(t, d, 13, told)
	spoil(told)
	reads(t, "P0.3: an answer handed in", d, 13, b)
}

// The pages of two devices have nothing to do with each other.
func TestTwoDevices(t *testing.T) {
	a, b := dev.New(386), dev.New(386)
	writes(t, a, 5, bytes.Repeat([]byte{'a'}, 256))
	reads(t, "P0.5: the other device", b, 5, make([]byte, 256))
	writes(t, b, 5, bytes.Repeat([]byte{'b'}, 256))
	reads(t, "P0.5: the first device", a, 5, bytes.Repeat([]byte{'a'}, 256))
}

// walk does many Writes, Flushes and crashes, holds them against a plain model
// and answers all that was told.
func walk(t *testing.T, seed source) []byte {
	t.Helper()
	s, told := seed, []byte{}
	d := dev.New(390)
	var now, flushed [96][256]byte
	for range 400 {
		no := s.below(96)
		switch s.below(6) {
		case 0:
			if d.Flush() != api.OK {
				t.Fatal("walk: Flush")
			}
			flushed = now
		case 1:
			loose := d.Loose()
			keep := s.bools(s.below(len(loose) + 1))
			d = d.Crash(keep...)
			for k, i := range loose {
				if k >= len(keep) || !keep[k] {
					p, at := (i-2)/4, (i-2)%4*64
					copy(now[p][at:at+64], flushed[p][at:])
				}
			}
			flushed = now
		default:
			b := s.bytes(256)
			writes(t, d, no, b)
			now[no] = [256]byte(b)
		}
		for p := range 96 {
			b, err := Read(d, p)
			if err != api.OK || !bytes.Equal(b, now[p][:]) {
				t.Fatalf("P9.1: walk: Read(%d) = %x, %d, want %x", p, b, err, now[p])
			}
			told = append(told, b[p], b[255-p])
		}
	}
	return told
}

func TestWalk(t *testing.T) {
	for seed := range 8 {
		a, b := walk(t, source(seed+1)), walk(t, source(seed+1))
		if !bytes.Equal(a, b) {
			t.Fatal("P0.5: the same calls told something else")
		}
	}
}
