package tree

import (
	"fmt"
	"slices"
	"strings"
	"testing"

	"engross/api"
	"engross/cell"
	"engross/sheet"
)

// styles are ways of making keys.
func styles() map[string]func(r *source) string {
	return map[string]func(r *source) string{
		"any":       func(r *source) string { return r.word(1 + r.below(16)) },
		"one byte":  func(r *source) string { return r.word(1) },
		"two bytes": func(r *source) string { return string([]byte{byte(r.below(8)), byte(r.below(256))}) },
		"begin alike": func(r *source) string {
			return strings.Repeat("p", 13) + fmt.Sprintf("%03d", r.below(300))
		},
		"beginnings": func(r *source) string { return strings.Repeat("\xff", 1+r.below(16)) },
		"beginnings of some": func(r *source) string {
			k := strings.Repeat(string([]byte{byte('a' + r.below(12))}), 16)
			return k[:1+r.below(16)]
		},
		"noughts": func(r *source) string { return strings.Repeat("\x00", 1+r.below(15)) + r.word(r.below(2)) },
		"long":    func(r *source) string { return r.word(16) },
		"few bytes": func(r *source) string {
			b := make([]byte, 1+r.below(16))
			for i := range b {
				b[i] = "\x00\x01\xfe\xff"[r.below(4)]
			}
			return string(b)
		},
	}
}

// edges is k, or a key next to it.
func (s *source) edge(k string) string {
	switch s.below(6) {
	case 0:
		return k + "\x00"
	case 1:
		return k[:len(k)-1]
	case 2:
		return k[:len(k)-1] + string([]byte{k[len(k)-1] + 1})
	case 3:
		return k[:len(k)-1] + string([]byte{k[len(k)-1] - 1}) + "\xff"
	case 4:
		return ""
	}
	return k
}

// walks does steps at random, of which puts per cent put, and asks all behind
// each.
func walks(t *testing.T, what string, r *source, steps, puttings int, key func(r *source) string, cells func(k string) cell.Cell) {
	t.Helper()
	s, m := sheet.New(noughts()), plain{}
	for range steps {
		k := key(r)
		if r.below(100) < puttings {
			puts(t, what, s, m, cells(k))
		} else {
			if l := m.cells(); len(l) > 0 && r.below(3) > 0 {
				k = l[r.below(len(l))].Key
			}
			dels(t, what, s, m, k)
		}
		right(t, what, s, m)
		gets(t, what, s, m, k)
		gets(t, what, s, m, r.edge(k))
		scans(t, what, s, m, r.edge(k), r.edge(key(r)))
	}
	whole(t, what, s, m)
	empties(t, what, s, m, r)
}

// empties deletes all that there is, in some order.
func empties(t *testing.T, what string, s *sheet.Sheet, m plain, r *source) {
	t.Helper()
	for n := 0; len(m) > 0; n++ {
		l := m.cells()
		dels(t, what, s, m, l[r.below(len(l))].Key)
		if n%8 == 0 {
			right(t, what, s, m)
		}
	}
	empty(t, what, s)
}

// empty asks that nothing is in s.
func empty(t *testing.T, what string, s *sheet.Sheet) {
	t.Helper()
	whole(t, what, s, plain{})
	if n := count(t, s); n != 0 {
		t.Fatalf("%s: P14.1: of the empty tree %d pages are in use", what, n)
	}
	for _, k := range []string{"", "a", "\x00", "\xff", strings.Repeat("k", 16), strings.Repeat("k", 17)} {
		gets(t, what, s, plain{}, k)
		scans(t, what, s, plain{}, k, "")
		scans(t, what, s, plain{}, "", k)
		dels(t, what, s, plain{}, k)
	}
}

func TestWalksOfAnyCells(t *testing.T) {
	for name, key := range styles() {
		for seed := range 3 {
			r := seeded(seed + 10)
			walks(t, fmt.Sprint(name, " ", seed), r, 160, 40+20*seed, key, r.cell)
		}
	}
}

func TestWalksOfOneLength(t *testing.T) {
	for name, key := range styles() {
		walks(t, name+", longest", seeded(1), 150, 65, key, longest)
		walks(t, name+", shortest", seeded(2), 150, 65, key, shortest)
	}
}

// Long walks are asked all only now and then.
func TestLongWalks(t *testing.T) {
	for seed := range 3 {
		r := seeded(seed)
		s, m := sheet.New(noughts()), plain{}
		what := fmt.Sprint("long walk ", seed)
		full := 0
		for n := range 1600 {
			// It grows for a while, and shrinks for a while.
			puttings := 80
			if n/300%2 == 1 {
				puttings = 25
			}
			k := fmt.Sprintf("%0*d", 1+r.below(3)*5, r.below(250))
			if r.below(100) < puttings {
				if !puts(t, what, s, m, r.cell(k)) {
					full++
				}
			} else {
				dels(t, what, s, m, k)
			}
			gets(t, what, s, m, k)
			if n%100 == 0 {
				whole(t, what, s, m)
			}
		}
		if full == 0 {
			t.Errorf("%s was never full", what)
		}
		empties(t, what, s, m, r)
	}
}

// orders are ways of going through n things.
func orders(n int) map[string][]int {
	l := map[string][]int{}
	for i := range n {
		l["rising"] = append(l["rising"], i)
		l["falling"] = append(l["falling"], n-1-i)
		ends, middle := i/2, n/2+i/2
		if i%2 == 1 {
			ends, middle = n-1-i/2, n/2-1-i/2
		}
		l["from both ends"] = append(l["from both ends"], ends)
		l["from the middle"] = append(l["from the middle"], middle)
		l["every seventh"] = append(l["every seventh"], i*7%n)
	}
	return l
}

func TestOrders(t *testing.T) {
	for _, cells := range []func(k string) cell.Cell{longest, shortest, seeded(3).cell} {
		const n = 60
		for putting, ups := range orders(n) {
			for deleting, downs := range orders(n) {
				if seen := slices.Sorted(slices.Values(ups)); seen[0] != 0 || len(slices.Compact(seen)) != n {
					t.Fatalf("%s does not go through all", putting)
				}
				what := putting + ", then " + deleting
				s, m := sheet.New(noughts()), plain{}
				for _, i := range ups {
					if !puts(t, what, s, m, cells(fmt.Sprintf("%016d", i))) {
						t.Fatalf("%s: P14.1: ErrFull of %d cells", what, len(m))
					}
				}
				whole(t, what, s, m)
				for i, x := range downs {
					dels(t, what, s, m, fmt.Sprintf("%016d", x))
					dels(t, what, s, m, fmt.Sprintf("%016d", x))
					if i%9 == 0 {
						whole(t, what, s, m)
					}
				}
				empty(t, what, s)
			}
		}
	}
}

// Behind every single step.
func TestOrdersStepByStep(t *testing.T) {
	for name, l := range orders(70) {
		s, m := sheet.New(noughts()), plain{}
		for _, i := range l {
			puts(t, name, s, m, longest(fmt.Sprintf("%016d", i)))
			right(t, name, s, m)
		}
		for _, i := range l {
			dels(t, name, s, m, fmt.Sprintf("%016d", i))
			right(t, name, s, m)
		}
		empty(t, name, s)
	}
}

func TestAnEmptyTree(t *testing.T) {
	empty(t, "noughts", sheet.New(noughts()))
	s := sheet.New(noughts())
	m := plain{}
	for n := range 3 {
		puts(t, "one", s, m, cellOf("k", fmt.Sprint(n)))
		whole(t, "one", s, m)
		if n := count(t, s); n != 1 {
			t.Errorf("P14.1: one cell has %d pages", n)
		}
		dels(t, "one", s, m, "k")
		empty(t, "emptied", s)
		dels(t, "emptied", s, m, "k")
	}
	// Other bytes of the page 1, and the bits of the pages 0 and 1, say
	// nothing.
	g := noughts()
	for i := range g.pages[1] {
		g.pages[1][i] = byte(i)
	}
	copy(g.pages[1], []byte{3, 0, 0, 0, 0})
	s = sheet.New(g)
	empty(t, "no noughts", s)
	puts(t, "no noughts", s, m, cellOf("k", "v"))
	whole(t, "no noughts", s, m)
	dels(t, "no noughts", s, m, "k")
	stays(t, "P14.1: emptied, the page 1", sheet.New(ground1(s)), ground1(g))
}

// ground1 has the page 1 of p alone.
func ground1(p sheet.Pages) *ground {
	g := noughts()
	b, _ := p.Page(1)
	copy(g.pages[1], b)
	return g
}

// As many cells as one page holds have one page, and one more has three: two
// leaves and the way to them.
func TestOnePageAndOneMore(t *testing.T) {
	for name, cells := range map[string]func(k string) cell.Cell{"longest": longest, "shortest": shortest, "middling": func(k string) cell.Cell {
		return cellOf(k, "0123456789")
	}} {
		for order, l := range orders(100) {
			what := name + " " + order
			s, m := sheet.New(noughts()), plain{}
			room := 254
			for _, i := range l {
				c := cells(string([]byte{byte(i)}))
				room -= length(c)
				puts(t, what, s, m, c)
				whole(t, what, s, m)
				if room < 0 {
					break
				}
				if n := count(t, s); n != 1 {
					t.Fatalf("%s: P14.1: %d cells have %d pages", what, len(m), n)
				}
			}
			if n := count(t, s); n != 3 {
				t.Errorf("%s: P14.1: %d cells have %d pages", what, len(m), n)
			}
		}
	}
}

// To the very byte: 254 bytes of cells have one page.
func TestAPageThatIsFullToTheLastByte(t *testing.T) {
	for bytes := 230; bytes <= 265; bytes++ {
		for _, order := range orders(10) {
			what := fmt.Sprintf("%d bytes", bytes)
			s, m := sheet.New(noughts()), plain{}
			for _, i := range order {
				c := cellOf(string([]byte{byte('a' + i)}), strings.Repeat("x", 20))
				if i == 4 {
					more := bytes - 9*25 - 5
					c.Val.S = strings.Repeat("x", min(more, 20))
					c.Key += strings.Repeat("y", more-min(more, 20))
				}
				puts(t, what, s, m, c)
			}
			whole(t, what, s, m)
			want := 1
			if bytes > 254 {
				want = 3
			}
			if n := count(t, s); n != want {
				t.Errorf("P14.1: %s of cells have %d pages", what, n)
			}
		}
	}
}

func TestScan(t *testing.T) {
	s, m := sheet.New(noughts()), plain{}
	for i := range 60 {
		puts(t, "scan", s, m, longest(fmt.Sprintf("k%014d", 2*i)))
	}
	names := []string{"", "a", "k", "l", "\x00", "\xff", strings.Repeat("k", 16), strings.Repeat("k", 17), strings.Repeat("\xff", 300)}
	for i := -1; i < 122; i += 3 {
		names = append(names, fmt.Sprintf("k%014d", i), fmt.Sprintf("k%014d", i)+"\x00")
	}
	// The keys between two pages.
	for _, no := range studied(s).pages {
		b, _ := s.Page(no)
		names = append(names, read(b).Keys...)
	}
	for _, from := range names {
		for _, to := range names {
			scans(t, "scan", s, m, from, to)
		}
		gets(t, "scan", s, m, from)
	}
}

func TestScanOfEachSpan(t *testing.T) {
	r := seeded(9)
	s, m := sheet.New(noughts()), plain{}
	for i := range 40 {
		puts(t, "spans", s, m, r.cell(fmt.Sprintf("%02d", 2*i)))
	}
	for i := range 82 {
		for j := range 82 {
			scans(t, "spans", s, m, fmt.Sprintf("%02d", i), fmt.Sprintf("%02d", j))
		}
	}
}

func TestWhatMayNotBe(t *testing.T) {
	full := filled(t, longest)
	for n, c := range mayNot("k") {
		for _, s := range []*sheet.Sheet{sheet.New(noughts()), sheet.New(full), nil, sheet.New(nil)} {
			ahead := s.Changes()
			if err := Put(s, c); err != api.ErrForm {
				t.Errorf("P14.1: %d: Put(%.60v) = %d, want ErrForm", n, c, err)
			}
			unchanged(t, "P14.1: ErrForm", s, ahead)
		}
	}
	// Also where a cell of this key is there.
	s, m := sheet.New(noughts()), plain{}
	puts(t, "ErrForm", s, m, cellOf("k", "v"))
	for _, c := range mayNot("k") {
		if err := Put(s, c); err != api.ErrForm {
			t.Errorf("P14.1: Put(%.60v) = %d, want ErrForm", c, err)
		}
		whole(t, "ErrForm", s, m)
	}
}

// Keys that may not be are no cell's.
func TestKeysThatMayNotBe(t *testing.T) {
	r := seeded(4)
	s, m := sheet.New(noughts()), plain{}
	for range 80 {
		puts(t, "keys", s, m, r.cell(r.word(1+r.below(16))))
	}
	for _, k := range []string{"", strings.Repeat("k", 17), strings.Repeat("\x00", 17), strings.Repeat("\xff", 17), strings.Repeat("m", 1<<16)} {
		gets(t, "keys", s, m, k)
		dels(t, "keys", s, m, k)
		scans(t, "keys", s, m, k, "")
		scans(t, "keys", s, m, "", k)
	}
	for k := range m {
		gets(t, "keys", s, m, k+strings.Repeat("\x00", 17))
		dels(t, "keys", s, m, k+strings.Repeat("\x00", 17))
	}
	whole(t, "keys", s, m)
}
