package super

import (
	"bytes"
	"fmt"
	"math"
	"slices"
	"strings"
	"testing"

	"engross/api"
	"engross/crc"
	"engross/dev"
)

// source is a small generator, so that every run tries the same inputs.
type source uint64

func (s *source) next() uint64 {
	*s ^= *s << 13
	*s ^= *s >> 7
	*s ^= *s << 17
	return uint64(*s)
}

func (s *source) below(n int) int { return int(s.next() >> 8 % uint64(n)) }

func (s *source) text(n int) string {
	b := make([]byte, n)
	for i := range b {
		b[i] = byte(s.next() >> 16)
	}
	return string(b)
}

func (s *source) bools(n int) []bool {
	l := make([]bool, n)
	for i := range l {
		l[i] = s.below(2) == 1
	}
	return l
}

// row is n times c.
func row(c string, n int) string { return strings.Repeat(c, n) }

// spoil writes all over b, its spare room too.
func spoil(b []byte) {
	b = b[:cap(b)]
	for i := range b {
		b[i] ^= 0xa5
	}
}

// someTexts are texts that may be, the edges among them.
func someTexts() []string {
	s := source(9)
	l := []string{
		"", "\x00", "a", "\xff", "ab", "Größe, 値", row("\x00", 39), row("\x00", 40), row("\xff", 40), row("x", 39), row("x", 40),
	}
	for n := range 41 {
		l = append(l, s.text(n))
	}
	return l
}

// tooLong are texts that may not be.
func tooLong() []string {
	return []string{row("x", 41), row("\x00", 41), row("x", 42), row("x", 51), row("x", 52), row("x", 64), row("x", 65),
		row("x", 255), row("x", 256), row("x", 296), row("x", 1<<16), row("x", 1<<16+40)}
}

// outside are numbers at which a device of n has not both sectors.
func outside(n int) []int {
	return []int{
		-1, -2, -n, -64, n - 1, n, n + 1, 2 * n, 2047, 2048, 4096, 1 << 31, 1 << 32, -1 << 32, 1 << 57, 1 << 58, 1 << 62,
		math.MaxInt64, math.MaxInt64 - 1, math.MinInt64, math.MinInt64 + 1,
	}
}

// sight is all that a device shows.
type sight struct {
	sectors []string
	loose   []int
	calls   int
	dead    bool
}

func see(d *dev.Dev) sight {
	s := sight{loose: d.Loose(), calls: d.Calls(), dead: d.Dead()}
	for i := range d.Len() {
		b, _ := d.Read(i)
		s.sectors = append(s.sectors, string(b))
	}
	return s
}

func (s sight) is(o sight) bool {
	return slices.Equal(s.sectors, o.sectors) && slices.Equal(s.loose, o.loose) && s.calls == o.calls && s.dead == o.dead
}

// shows asks that d shows want.
func shows(t *testing.T, what string, d *dev.Dev, want sight) {
	t.Helper()
	if got := see(d); !got.is(want) {
		t.Fatalf("%s: the device shows %+v, want %+v", what, got, want)
	}
}

// holds asks that s holds the text and its turn.
func holds(t *testing.T, what string, s *Super, text string, turn int64) {
	t.Helper()
	if s == nil {
		t.Fatalf("%s: no Super", what)
	}
	if string(s.Text()) != text || s.Turn() != turn {
		t.Fatalf("%s: %q, turn %d, want %q, turn %d", what, s.Text(), s.Turn(), text, turn)
	}
}

// opens asks that Open answers the text and its turn, and writes nothing.
func opens(t *testing.T, what string, d *dev.Dev, at int, text string, turn int64) *Super {
	t.Helper()
	before := see(d)
	s, err := Open(d, at)
	if err != api.OK {
		t.Fatalf("%s: Open: %d", what, err)
	}
	holds(t, what, s, text, turn)
	shows(t, what+": behind Open", d, before)
	return s
}

// refuses asks that Open answers want and nothing beside it, and writes
// nothing.
func refuses(t *testing.T, what string, d *dev.Dev, at int, want api.Errno) {
	t.Helper()
	before := see(d)
	if s, err := Open(d, at); s != nil || err != want {
		t.Fatalf("%s: Open = %v, %d, want error %d", what, s, err, want)
	}
	shows(t, what+": behind Open", d, before)
}

func makes(t *testing.T, d *dev.Dev, at int, text string) *Super {
	t.Helper()
	s, err := Make(d, at, []byte(text))
	if err != api.OK {
		t.Fatalf("P8.1: Make(%d, %q): %d", at, text, err)
	}
	return s
}

func saves(t *testing.T, s *Super, text string) {
	t.Helper()
	if err := s.Save([]byte(text)); err != api.OK {
		t.Fatalf("P8.1: Save(%q): %d", text, err)
	}
}

// saved is a device of 5 with n Saves behind a Make at 1: text k has turn k + 1.
func saved(t *testing.T, n int) (*dev.Dev, *Super) {
	t.Helper()
	d := dev.New(5)
	s := makes(t, d, 1, textOf(0))
	for k := range n {
		saves(t, s, textOf(k+1))
	}
	return d, s
}

func textOf(k int) string { return fmt.Sprintf("text %d", k) }

// rewrite lays b over the sector i, so that it lasts.
func rewrite(t *testing.T, d *dev.Dev, i int, b []byte) {
	t.Helper()
	if d.Write(i, b) != api.OK || d.Flush() != api.OK {
		t.Fatal("rewrite")
	}
}

// ruin makes the sector i hold no text.
func ruin(t *testing.T, d *dev.Dev, i int) {
	t.Helper()
	rewrite(t, d, i, bytes.Repeat([]byte{0x5a}, 64))
}

// keeps are all the ways to keep or lose n loose sectors.
func keeps(n int) [][]bool {
	l := [][]bool{}
	for m := range 1 << n {
		k := make([]bool, n)
		for i := range k {
			k[i] = m>>i&1 == 1
		}
		l = append(l, k)
	}
	return l
}

func TestMake(t *testing.T) {
	for _, text := range someTexts() {
		d := dev.New(6)
		d.Write(1, []byte("left"))
		d.Write(4, []byte("right"))
		before := see(d)
		s := makes(t, d, 2, text)
		holds(t, "P8.1: Make", s, text, 1)
		after := see(d)
		if len(after.loose) != 0 || after.calls != before.calls+3 {
			t.Fatalf("P8.1: Make(%q): loose %v, calls %d", text, after.loose, after.calls-before.calls)
		}
		for _, i := range []int{0, 1, 4, 5} {
			if after.sectors[i] != before.sectors[i] {
				t.Fatalf("P8.1: Make wrote the sector %d", i)
			}
		}
		opens(t, "P8.1: behind Make", d, 2, text, 1)
		opens(t, "P8.1: behind Make and a Crash", d.Crash(), 2, text, 1)
		holds(t, "P8.1: Make, asked again", s, text, 1)
	}
}

func TestMakeOfNothing(t *testing.T) {
	for _, b := range [][]byte{nil, {}, make([]byte, 0, 50), []byte(row("n", 9))[:0]} {
		d := dev.New(2)
		s, err := Make(d, 0, b)
		if err != api.OK {
			t.Fatalf("P0.4: Make of nothing: %d", err)
		}
		holds(t, "P0.4: Make of nothing", s, "", 1)
		opens(t, "P0.4: Make of nothing", d, 0, "", 1)
	}
}

// Both sectors hold it: each one is enough.
func TestMakeLaysBoth(t *testing.T) {
	for _, text := range someTexts() {
		for i := range 2 {
			d := dev.New(5)
			makes(t, d, 1, text)
			ruin(t, d, 1+i)
			s := opens(t, "P8.1: one sector behind Make", d, 1, text, 1)
			saves(t, s, "next")
			opens(t, "P8.1: and a Save behind it", d, 1, "next", 2)
		}
	}
}

func TestMakeOfTooMany(t *testing.T) {
	for _, text := range tooLong() {
		for _, d := range []*dev.Dev{dev.New(3), dev.New(1), dead(t), nil} {
			for _, at := range []int{0, 1, 2, -1, math.MaxInt64, math.MinInt64} {
				before := see(d)
				if s, err := Make(d, at, []byte(text)); s != nil || err != api.ErrForm {
					t.Fatalf("P8.1: Make(%d) of %d bytes = %v, %d", at, len(text), s, err)
				}
				shows(t, "P8.1: behind a Make of too many", d, before)
			}
		}
	}
	// The room behind the bytes does not count.
	if _, err := Make(dev.New(2), 0, make([]byte, 40, 200)); err != api.OK {
		t.Errorf("P8.1: Make of 40 bytes with spare room: %d", err)
	}
	if _, err := Make(dev.New(2), 0, make([]byte, 41, 200)); err != api.ErrForm {
		t.Errorf("P8.1: Make of 41 bytes with spare room: %d", err)
	}
}

// dead is a device of 3 that was made at 0, and died.
func dead(t *testing.T) *dev.Dev {
	t.Helper()
	d := dev.New(3)
	makes(t, d, 0, "dead")
	d.Fuse(0)
	return d
}

func TestNoSuchSectors(t *testing.T) {
	for _, n := range []int{1, 2, 3, 5, 2048} {
		for _, isDead := range []bool{false, true} {
			d := dev.New(n)
			// Whatever the sectors hold, both must be the device's.
			if n > 1 {
				makes(t, d, n-2, "kept")
				makes(t, d, 0, "kept")
			}
			if isDead {
				d.Fuse(0)
			}
			before := see(d)
			for _, at := range outside(n) {
				for _, text := range []string{"", "x", row("x", 40)} {
					if s, err := Make(d, at, []byte(text)); s != nil || err != api.ErrRange {
						t.Fatalf("P8.1: of %d sectors Make(%d) = %v, %d", n, at, s, err)
					}
				}
				refuses(t, fmt.Sprintf("P8.1: of %d sectors, at %d", n, at), d, at, api.ErrRange)
			}
			shows(t, "P8.1: at no such sectors", d, before)
		}
	}
}

func TestEachPlace(t *testing.T) {
	for _, n := range []int{2, 3, 9, 2048} {
		for at := 0; at < n-1; at += max(1, n/7) {
			d := dev.New(n)
			s := makes(t, d, at, "first")
			saves(t, s, "second")
			opens(t, "P8.1: each place", d.Crash(), at, "second", 2)
		}
		d := dev.New(n)
		saves(t, makes(t, d, n-2, "first"), "second")
		opens(t, "P8.1: the last place", d.Crash(), n-2, "second", 2)
	}
}

func TestNoDevice(t *testing.T) {
	for _, at := range []int{0, 1, -1, -2, math.MaxInt64, math.MinInt64} {
		if s, err := Make(nil, at, []byte("x")); s != nil || err != api.ErrRange {
			t.Errorf("P8.1: Make(nil, %d) = %v, %d", at, s, err)
		}
		if s, err := Open(nil, at); s != nil || err != api.ErrRange {
			t.Errorf("P8.1: Open(nil, %d) = %v, %d", at, s, err)
		}
	}
}

// A Make is cut off at each of its calls.
func TestMakeWithAFuse(t *testing.T) {
	for fuse := range 7 {
		d := dev.New(4)
		d.Fuse(fuse)
		s, err := Make(d, 1, []byte("text"))
		if fuse >= 3 {
			if err != api.OK {
				t.Fatalf("P8.1: Make with a fuse of %d: %d", fuse, err)
			}
			holds(t, "P8.1: Make with a fuse", s, "text", 1)
			opens(t, "P8.1: Make with a fuse", d.Crash(), 1, "text", 1)
			continue
		}
		if s != nil || err != api.ErrDown || !d.Dead() || d.Calls() != fuse {
			t.Fatalf("P8.1: Make with a fuse of %d = %v, %d", fuse, s, err)
		}
		refuses(t, "P8.1: nothing was flushed", d.Crash(), 1, api.ErrCorrupt)
	}
}

func TestMakeOnADeadDevice(t *testing.T) {
	d := dead(t)
	before := see(d)
	for _, text := range []string{"", "x", row("x", 40)} {
		for at := range 2 {
			if s, err := Make(d, at, []byte(text)); s != nil || err != api.ErrDown {
				t.Errorf("P8.1: Make on a dead device = %v, %d", s, err)
			}
		}
	}
	shows(t, "P8.1: a dead device", d, before)
}

// Whatever stood there, and however far its turns were, Make begins anew.
func TestMakeOverAnother(t *testing.T) {
	for n := range 6 {
		for _, text := range []string{"", "new", row("y", 40)} {
			d, old := saved(t, n)
			s := makes(t, d, 1, text)
			holds(t, "P8.1: made anew", s, text, 1)
			holds(t, "P8.1: the earlier one", old, textOf(n), int64(n+1))
			opens(t, "P8.1: made anew", d.Crash(), 1, text, 1)
			for i := range 2 {
				c := d.Crash()
				ruin(t, c, 1+i)
				opens(t, "P8.1: made anew, one sector", c, 1, text, 1)
			}
			saves(t, s, "newer")
			opens(t, "P8.1: made anew, saved", d.Crash(), 1, "newer", 2)
		}
	}
	d := dev.New(4)
	ruin(t, d, 0)
	ruin(t, d, 1)
	makes(t, d, 0, "x")
	opens(t, "P8.1: Make over what is no text", d.Crash(), 0, "x", 1)
}

func TestOpenBehindSaves(t *testing.T) {
	for _, n := range []int{0, 1, 2, 3, 4, 5, 255, 256, 257, 700} {
		d, s := saved(t, n)
		holds(t, "P8.1: behind Saves", s, textOf(n), int64(n+1))
		o := opens(t, "P8.1: behind Saves", d, 1, textOf(n), int64(n+1))
		opens(t, "P8.1: opened twice", d, 1, textOf(n), int64(n+1))
		saves(t, o, "next")
		holds(t, "P8.1: a Save behind Open", o, "next", int64(n+2))
		holds(t, "P0.5: the one that was not told", s, textOf(n), int64(n+1))
		opens(t, "P8.1: a Save behind Open", d.Crash(), 1, "next", int64(n+2))
	}
}

// Each Save in turn by an object that Open made.
func TestOpenAheadOfEachSave(t *testing.T) {
	d, _ := saved(t, 0)
	for n := range 300 {
		s := opens(t, "P8.1: ahead of a Save", d, 1, textOf(n), int64(n+1))
		saves(t, s, textOf(n+1))
		d = d.Crash()
	}
}

func TestTurnsOfManyBytes(t *testing.T) {
	for _, turn := range []int64{1, 127, 128, 255, 256, 65535, 65536, 1<<24 - 1, 1<<31 - 1, 1 << 31, 1<<32 - 1, 1 << 32, 1<<40 - 1} {
		d := dev.New(2)
		rewrite(t, d, 0, record{turn, "a"}.pack())
		s := opens(t, "P8.1: a turn", d, 0, "a", turn)
		saves(t, s, "b")
		opens(t, "P8.1: the turn behind it", d, 0, "b", turn+1)
	}
}

func TestOpenWhereNoneIs(t *testing.T) {
	s := source(3)
	for range 300 {
		d := dev.New(4)
		for i := range 4 {
			rewrite(t, d, i, []byte(s.text(s.below(65))))
		}
		refuses(t, "P8.1: any bytes", d, s.below(3), api.ErrCorrupt)
	}
	for _, c := range []string{"\x00", "\x01", "\x28", "\x80", "\xff"} {
		d := dev.New(3)
		rewrite(t, d, 0, []byte(row(c, 64)))
		rewrite(t, d, 1, []byte(row(c, 64)))
		refuses(t, "P8.1: all bytes alike", d, 0, api.ErrCorrupt)
	}
	for n := range 4 {
		d, _ := saved(t, n)
		ruin(t, d, 1)
		ruin(t, d, 2)
		refuses(t, "P8.1: both ruined", d, 1, api.ErrCorrupt)
		d.Fuse(0)
		refuses(t, "P8.1: both ruined, dead", d, 1, api.ErrCorrupt)
	}
}

// The sum is right, but no Make or Save leaves such a thing.
func TestOpenOfWhatNobodyLeaves(t *testing.T) {
	sum := func(b []byte) []byte {
		put(b[:4], uint64(crc.Sum(b[4:])))
		return b
	}
	for _, turn := range []int64{0, -1, -2, math.MinInt64, math.MaxInt64, math.MaxInt64 - 1, api.MaxNum + 1} {
		d := dev.New(2)
		b := record{turn, "a"}.pack()
		if r := unpack(b); r != (record{}) {
			t.Errorf("P0.6: a turn that none has: %v", r)
		}
		rewrite(t, d, 0, b)
		refuses(t, "P0.6: a turn that none has", d, 0, api.ErrCorrupt)
	}
	for _, n := range []int{41, 42, 51, 52, 64, 128, 255} {
		b := record{5, row("x", 40)}.pack()
		b[lengthAt] = byte(n)
		d := dev.New(2)
		rewrite(t, d, 1, sum(b))
		refuses(t, "P0.1: a text that is too long", d, 0, api.ErrCorrupt)
	}
	b := record{5, "x"}.pack()
	b[textAt+1] = 1
	d := dev.New(2)
	rewrite(t, d, 1, sum(b))
	refuses(t, "P8.1: something behind the text", d, 0, api.ErrCorrupt)
}

func TestOpenOfPartsOfASector(t *testing.T) {
	for n := range 70 {
		if n == 64 {
			continue
		}
		b := append(record{5, "x"}.pack(), make([]byte, 6)...)
		if r := unpack(b[:n]); r != (record{}) {
			t.Errorf("P0.1: of %d bytes: %v", n, r)
		}
	}
}

// Just one sector holds a text: the last one, or the one ahead of it.
func TestOpenOfOneSector(t *testing.T) {
	for n := range 7 {
		found := map[int64]int{}
		for i := range 2 {
			d, _ := saved(t, n)
			ruin(t, d, 1+i)
			s, err := Open(d, 1)
			if err != api.OK {
				t.Fatalf("P8.1: one sector: %d", err)
			}
			found[s.Turn()]++
			opens(t, "P8.1: one sector", d, 1, textOf(int(s.Turn()-1)), s.Turn())
			againBehindOne(t, d, s)
		}
		want := map[int64]int{1: 2}
		if n > 0 {
			want = map[int64]int{int64(n): 1, int64(n + 1): 1}
		}
		if fmt.Sprint(found) != fmt.Sprint(want) {
			t.Fatalf("P8.1: %d Saves, one sector: the turns %v, want %v", n, found, want)
		}
	}
}

// againBehindOne asks that where one sector was ruined Saves go on, whenever
// they are cut off.
func againBehindOne(t *testing.T, d *dev.Dev, s *Super) {
	t.Helper()
	text, turn := string(s.Text()), s.Turn()
	for fuse := range 2 {
		for _, keep := range keeps(1) {
			c := d.Crash()
			o := opens(t, "P8.1: one sector", c, 1, text, turn)
			c.Fuse(fuse)
			if err := o.Save([]byte("cut")); err != api.ErrDown {
				t.Fatalf("P8.1: one sector, a Save that is cut off: %d", err)
			}
			eitherOf(t, "P8.1: one sector, a crash", c.Crash(keep...), 1, text, "cut", turn, fuse == 1 && keep[0])
		}
	}
	saves(t, s, "more")
	opens(t, "P8.1: one sector, saved", d.Crash(), 1, "more", turn+1)
	// The Save went into the ruined one: the text ahead of it is there still.
	for i := range 2 {
		c := d.Crash()
		ruin(t, c, 1+i)
		if o, err := Open(c, 1); err != api.OK || string(o.Text()) != text && string(o.Text()) != "more" {
			t.Fatalf("P8.1: one sector, saved, the other ruined: %d", err)
		}
	}
}

// eitherOf asks that Open holds the text ahead of a Save or, if it was kept,
// the one of it, and answers what it holds.
func eitherOf(t *testing.T, what string, d *dev.Dev, at int, old, now string, turn int64, kept bool) *Super {
	t.Helper()
	if kept {
		return opens(t, what+", kept", d, at, now, turn+1)
	}
	return opens(t, what+", lost", d, at, old, turn)
}

// One bit of a sector is changed: it holds no text any more, the other one does.
func TestOneBitChanged(t *testing.T) {
	for n := range 4 {
		d, _ := saved(t, n)
		last := map[int]int{}
		for i := range 2 {
			for bit := range 8 * 64 {
				c := d.Crash()
				b, _ := c.Read(1 + i)
				b[bit/8] ^= 1 << (bit % 8)
				rewrite(t, c, 1+i, b)
				s, err := Open(c, 1)
				if err != api.OK {
					t.Fatalf("P8.1: %d Saves, bit %d of sector %d changed: %d", n, bit, i, err)
				}
				turn := int(s.Turn())
				opens(t, "P8.1: a bit changed", c, 1, textOf(turn-1), int64(turn))
				if turn != n+1 && turn != n {
					t.Fatalf("P8.1: %d Saves, bit %d of sector %d changed: turn %d", n, bit, i, turn)
				}
				if was, ok := last[i]; ok && was != turn {
					t.Fatalf("P8.1: %d Saves, bit %d of sector %d changed: turn %d, of another bit %d", n, bit, i, turn, was)
				}
				last[i] = turn
				ruin(t, c, 2-i)
				refuses(t, "P8.1: a bit changed, the other one ruined", c, 1, api.ErrCorrupt)
			}
		}
		if n > 0 && last[0] == last[1] {
			t.Fatalf("P8.1: %d Saves: the sectors have one turn", n)
		}
	}
}

// A dead device can be read: what it has is told, but no Save is done.
func TestOpenOfADeadDevice(t *testing.T) {
	for n := range 4 {
		d, _ := saved(t, n)
		d.Fuse(0)
		s := opens(t, "P8.1: a dead device", d, 1, textOf(n), int64(n+1))
		before := see(d)
		if err := s.Save([]byte("x")); err != api.ErrDown {
			t.Errorf("P8.1: Save on a dead device: %d", err)
		}
		if err := s.Save([]byte(row("x", 41))); err != api.ErrForm {
			t.Errorf("P0.2: Save of too many on a dead device: %d", err)
		}
		holds(t, "P8.1: a dead device", s, textOf(n), int64(n+1))
		shows(t, "P8.1: a dead device", d, before)
	}
	none := dev.New(3)
	none.Fuse(0)
	refuses(t, "P8.1: a dead device with no text", none, 1, api.ErrCorrupt)
}

func TestSave(t *testing.T) {
	texts := someTexts()
	// Longer ones, then shorter ones, and the same one twice.
	for i := len(texts) - 1; i >= 0; i-- {
		texts = append(texts, texts[i])
	}
	d := dev.New(5)
	d.Write(0, []byte("left"))
	d.Write(3, []byte("right"))
	s := makes(t, d, 1, "first")
	for k, text := range texts {
		before := see(d)
		saves(t, s, text)
		holds(t, "P8.1: Save", s, text, int64(k+2))
		after := see(d)
		if len(after.loose) != 0 || after.calls != before.calls+2 {
			t.Fatalf("P8.1: Save: loose %v, calls %d", after.loose, after.calls-before.calls)
		}
		changed := 0
		for i := range 5 {
			if after.sectors[i] != before.sectors[i] {
				changed++
			}
		}
		if changed != 1 || after.sectors[0] != before.sectors[0] || after.sectors[3] != before.sectors[3] {
			t.Fatalf("P8.1: Save changed %d sectors", changed)
		}
		opens(t, "P8.1: Save", d, 1, text, int64(k+2))
		opens(t, "P8.1: Save and a Crash", d.Crash(), 1, text, int64(k+2))
	}
}

func TestSaveOfNothing(t *testing.T) {
	for _, b := range [][]byte{nil, {}, make([]byte, 0, 50), []byte(row("n", 9))[:0]} {
		d, s := saved(t, 1)
		if err := s.Save(b); err != api.OK {
			t.Fatalf("P0.4: Save of nothing: %d", err)
		}
		holds(t, "P0.4: Save of nothing", s, "", 3)
		opens(t, "P0.4: Save of nothing", d, 1, "", 3)
	}
}

func TestSaveOfTooMany(t *testing.T) {
	for n := range 3 {
		d, s := saved(t, n)
		before := see(d)
		for _, text := range tooLong() {
			if err := s.Save([]byte(text)); err != api.ErrForm {
				t.Fatalf("P8.1: Save of %d bytes: %d", len(text), err)
			}
		}
		holds(t, "P8.1: behind Saves of too many", s, textOf(n), int64(n+1))
		shows(t, "P8.1: behind Saves of too many", d, before)
		if err := s.Save(make([]byte, 41, 200)); err != api.ErrForm {
			t.Errorf("P8.1: Save of 41 bytes with spare room: %d", err)
		}
		if err := s.Save(make([]byte, 40, 200)); err != api.OK {
			t.Errorf("P8.1: Save of 40 bytes with spare room: %d", err)
		}
		opens(t, "P8.1: behind Saves of too many", d, 1, row("\x00", 40), int64(n+2))
	}
}

// A Save is cut off at each of its calls, and the loose sectors are kept or
// not; then the next one is, of what was found.
func TestCrashInASave(t *testing.T) {
	for n := range 5 {
		for _, text := range []string{"", "cut", textOf(n), row("x", 40)} {
			for fuse := range 4 {
				d, s := saved(t, n)
				d.Fuse(fuse)
				err := s.Save([]byte(text))
				if fuse >= 2 {
					if err != api.OK {
						t.Fatalf("P8.1: Save with a fuse of %d: %d", fuse, err)
					}
					holds(t, "P8.1: Save with a fuse", s, text, int64(n+2))
					opens(t, "P8.1: Save with a fuse", d.Crash(), 1, text, int64(n+2))
					continue
				}
				if err != api.ErrDown || d.Calls() != 3+2*n+fuse {
					t.Fatalf("P8.1: Save with a fuse of %d: %d", fuse, err)
				}
				for range 2 {
					holds(t, "P8.1: Save with a fuse", s, textOf(n), int64(n+1))
					if err := s.Save([]byte("again")); err != api.ErrDown {
						t.Fatalf("P8.1: Save behind one that was cut off: %d", err)
					}
				}
				for _, keep := range keeps(len(d.Loose())) {
					c := d.Crash(keep...)
					o := eitherOf(t, "P8.1: a crash", c, 1, textOf(n), text, int64(n+1), len(keep) > 0 && keep[0])
					crashAgain(t, c, o)
				}
			}
		}
	}
}

// crashAgain cuts off a Save of s, which c has, and goes on with one that is
// not.
func crashAgain(t *testing.T, c *dev.Dev, s *Super) {
	t.Helper()
	text, turn := string(s.Text()), s.Turn()
	for fuse := range 2 {
		for _, keep := range [][]bool{nil, {false}, {true}} {
			e := c.Crash()
			o := opens(t, "P8.1: behind a crash", e, 1, text, turn)
			e.Fuse(fuse)
			if err := o.Save([]byte("second cut")); err != api.ErrDown {
				t.Fatalf("P8.1: a second Save that is cut off: %d", err)
			}
			kept := fuse == 1 && len(keep) > 0 && keep[0]
			e = e.Crash(keep...)
			o = eitherOf(t, "P8.1: a second crash", e, 1, text, "second cut", turn, kept)
			was := o.Turn()
			saves(t, o, "whole")
			opens(t, "P8.1: behind two crashes", e.Crash(), 1, "whole", was+1)
		}
	}
}

// Others' sectors are loose too, on both sides.
func TestCrashAmongOtherSectors(t *testing.T) {
	for n := range 3 {
		for _, keep := range keeps(3) {
			d, s := saved(t, n)
			d.Write(0, []byte("left"))
			d.Write(4, []byte("right"))
			d.Fuse(1)
			if err := s.Save([]byte("cut")); err != api.ErrDown {
				t.Fatalf("P8.1: a Save among others: %d", err)
			}
			eitherOf(t, "P8.1: a crash among others", d.Crash(keep...), 1, textOf(n), "cut", int64(n+1), keep[1])
		}
	}
}

func TestCrashBehindASave(t *testing.T) {
	for n := range 5 {
		d, s := saved(t, n)
		for _, keep := range [][]bool{nil, {true}, {false}, {true, true, true}, {false, false, false}} {
			opens(t, "P8.1: a crash behind a Save", d.Crash(keep...), 1, textOf(n), int64(n+1))
		}
		// The old device stays, and so does its object.
		c := d.Crash()
		saves(t, opens(t, "P8.1: a crash", c, 1, textOf(n), int64(n+1)), "there")
		opens(t, "P0.5: the old device", d, 1, textOf(n), int64(n+1))
		saves(t, s, "here")
		opens(t, "P0.5: the old device", d, 1, "here", int64(n+2))
		opens(t, "P0.5: the other device", c, 1, "there", int64(n+2))
	}
}

func TestTwoPlacesShareNothing(t *testing.T) {
	d := dev.New(6)
	a, b := makes(t, d, 0, "a"), makes(t, d, 4, "b")
	for k := range 5 {
		saves(t, a, row("a", k))
		holds(t, "P0.5: the other place", b, "b", 1)
		opens(t, "P0.5: the other place", d, 4, "b", 1)
	}
	saves(t, b, "bb")
	opens(t, "P0.5: the one place", d, 0, "aaaa", 6)
	opens(t, "P0.5: the other place", d, 4, "bb", 2)
	refuses(t, "P0.5: between them", d, 2, api.ErrCorrupt)
}

func TestNil(t *testing.T) {
	var s *Super
	for _, b := range [][]byte{nil, {}, []byte("x"), make([]byte, 40), make([]byte, 41), make([]byte, 1000)} {
		if err := s.Save(b); err != api.ErrDown {
			t.Errorf("P8.1: Save of nil: %d", err)
		}
	}
	if len(s.Text()) != 0 || s.Turn() != 0 {
		t.Errorf("P8.1: nil: %q, %d", s.Text(), s.Turn())
	}
	// One that neither Make nor Open made must not panic.
	z := new(Super)
	if err := z.Save([]byte("x")); err != api.ErrDown || len(z.Text()) != 0 || z.Turn() != 0 {
		t.Errorf("P0.1: an empty one: %d, %q, %d", err, z.Text(), z.Turn())
	}
}

// handedIn does call with texts in greater rooms, and asks that they are
// neither changed nor kept.
func handedIn(t *testing.T, call func(b []byte) (*dev.Dev, *Super), turn int64) {
	t.Helper()
	for _, n := range []int{0, 1, 5, 39, 40} {
		room := []byte(row("ab", 50))
		before := bytes.Clone(room)
		d, s := call(room[:n])
		if !bytes.Equal(room, before) {
			t.Fatalf("P0.3: %d bytes: the argument or its spare room was written", n)
		}
		spoil(room)
		spoilt := bytes.Clone(room)
		holds(t, "P0.3: the argument was spoilt", s, string(before[:n]), turn)
		opens(t, "P0.3: the argument was spoilt", d, 1, string(before[:n]), turn)
		b := s.Text()
		spoil(b)
		holds(t, "P0.3: what was told was spoilt", s, string(before[:n]), turn)
		if !bytes.Equal(room, spoilt) {
			t.Fatal("P0.3: what was told is the argument's memory")
		}
		saves(t, s, "next")
		spoil(b)
		holds(t, "P0.3: what was told was spoilt", s, "next", turn+1)
		opens(t, "P0.3: what was told was spoilt", d, 1, "next", turn+1)
	}
}

func TestNothingIsShared(t *testing.T) {
	handedIn(t, func(b []byte) (*dev.Dev, *Super) {
		d := dev.New(4)
		s, _ := Make(d, 1, b)
		return d, s
	}, 1)
	handedIn(t, func(b []byte) (*dev.Dev, *Super) {
		d, s := saved(t, 1)
		s.Save(b)
		return d, s
	}, 3)
	handedIn(t, func(b []byte) (*dev.Dev, *Super) {
		d, s := saved(t, 1)
		s.Save(b)
		o, _ := Open(d, 1)
		return d, o
	}, 3)
}

// What was told stays as it was told.
func TestTextStays(t *testing.T) {
	d, s := saved(t, 0)
	told := [][]byte{s.Text()}
	for k := range 6 {
		saves(t, s, textOf(k+1))
		told = append(told, s.Text(), s.Text())
		spoil(s.Text())
	}
	for k, b := range told {
		if string(b) != textOf((k+1)/2) {
			t.Errorf("P0.3: told %d: %q", k, b)
		}
	}
	// Two that were opened share nothing either.
	a, b := opens(t, "P0.3", d, 1, textOf(6), 7), opens(t, "P0.3", d, 1, textOf(6), 7)
	spoil(a.Text())
	saves(t, a, "a")
	holds(t, "P0.3: the other one", b, textOf(6), 7)
}

// A Super that the device's sectors are written under still holds what it was
// told.
func TestHoldsWhateverTheDeviceHas(t *testing.T) {
	d, s := saved(t, 2)
	ruin(t, d, 1)
	ruin(t, d, 2)
	holds(t, "P0.5: the sectors were ruined", s, textOf(2), 3)
	saves(t, s, "again")
	opens(t, "P8.1: a Save over ruins", d, 1, "again", 4)
}

// model is what a place must hold: nothing, or a text and its turn.
type model struct {
	text string
	turn int64
}

// walk does one thing at random, cut off or not, and answers what is gone on
// with.
func walk(t *testing.T, s *source, d *dev.Dev, o *Super, m model) (*dev.Dev, *Super, model) {
	t.Helper()
	text := s.text(s.below(43))
	if s.below(3) == 0 {
		d.Write([]int{0, 3}[s.below(2)], []byte(s.text(s.below(65))))
	}
	cut := s.below(4) == 0
	if cut {
		d.Fuse(s.below(3))
	}
	err := o.Save([]byte(text))
	next := model{text, m.turn + 1}
	switch {
	case len(text) > 40:
		if err != api.ErrForm {
			t.Fatalf("P8.1: Save of %d bytes: %d", len(text), err)
		}
		next = m
	case err == api.OK:
		m = next
	case err != api.ErrDown || !cut:
		t.Fatalf("P8.1: Save: %d", err)
	}
	holds(t, "P8.1: held against the model", o, m.text, m.turn)
	if !cut && s.below(3) > 0 {
		return d, o, m
	}
	d = d.Crash(s.bools(s.below(5))...)
	o, err = Open(d, 1)
	if err != api.OK {
		t.Fatalf("P8.1: Open behind a crash: %d", err)
	}
	if o.Turn() == next.turn {
		m = next
	}
	opens(t, "P8.1: held against the model", d, 1, m.text, m.turn)
	return d, o, m
}

func TestAgainstTheModel(t *testing.T) {
	for seed := range 40 {
		s := source(1 + seed)
		d := dev.New(4)
		m := model{s.text(s.below(41)), 1}
		o := makes(t, d, 1, m.text)
		for range 500 {
			d, o, m = walk(t, &s, d, o, m)
		}
	}
}
