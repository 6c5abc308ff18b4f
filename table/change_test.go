package table_test

import (
	"fmt"
	"math/rand/v2"
	"slices"
	"strings"
	"testing"

	"vellum/api"
	"vellum/blocks"
	"vellum/pmem"
	"vellum/table"
)

// letters is a cell of 62 bytes for each letter.
func letters(s string) []string {
	var l []string
	for i := range len(s) {
		c := []byte(zeros(62))
		for k := range c {
			c[k] = s[i]
		}
		l = append(l, string(c))
	}
	return l
}

// spelt is the blocks of a table of such cells, each with its letters.
func spelt(t *testing.T, w *blocks.Work, ref uint32) string {
	t.Helper()
	plan, is := stateOf(t, w).table(ref, 62)
	if !is {
		return "no table"
	}
	s := ""
	for _, r := range plan {
		s += fmt.Sprint(r.block, " (")
		for _, c := range r.cells {
			s += c[:1]
		}
		s += ") "
	}
	return s
}

// P15.1 to P15.6: the rows of the examples.
func TestExamples(t *testing.T) {
	for cell, want := range map[int]int{62: 4, 1: 248, 4: 62, 0: 0, 63: 0} {
		if got := table.Fill(cell); got != want {
			t.Errorf("Fill(%d) = %d", cell, got)
		}
	}
	d, e := pmem.New(heapAt + 10*256)
	well(t, e)
	w := begun(t, heap(t, d))
	inserts := func(ref uint32, i int, s string, want uint32, blocks string) {
		t.Helper()
		if got, e := table.Insert(w, ref, 62, i, listOf(letters(s))...); got != want || e != api.OK || spelt(t, w, got) != blocks {
			t.Errorf("Insert(%d, %d, %s) = %d, %d: %s", ref, i, s, got, e, spelt(t, w, got))
		}
	}
	deletes := func(ref uint32, i, n int, want uint32, blocks string, taken ...int) {
		t.Helper()
		if got, e := table.Delete(w, ref, 62, i, n); got != want || e != api.OK || spelt(t, w, got) != blocks || !slices.Equal(w.Taken(), taken) {
			t.Errorf("Delete(%d, %d, %d) = %d, %d: %s, taken %v", ref, i, n, got, e, spelt(t, w, got), w.Taken())
		}
	}
	inserts(0, 0, "abcde", 1, "0 (abcd) 1 (e) ")
	if l, e := table.Blocks(w, 1, 62); !slices.Equal(l, []int{0, 1}) || e != api.OK {
		t.Errorf("Blocks = %v, %d", l, e)
	}
	inserts(1, 2, "x", 1, "0 (abxc) 1 (de) ")
	inserts(1, 4, "pqr", 1, "0 (abxc) 1 (pqrd) 2 (e) ")
	deletes(1, 1, 2, 1, "0 (ac) 1 (pqrd) 2 (e) ", 0, 1, 2)
	deletes(1, 2, 2, 1, "0 (acrd) 2 (e) ", 0, 2)
	codes := []api.Errno{
		second(table.Get(w, 1, 62, -1)), table.Put(w, 1, 62, 0, make([]byte, 61)),
		second(table.Insert(w, 1, 62, 6, listOf(letters("z"))...)), second(table.Delete(w, 1, 62, 3, 3)),
	}
	if !slices.Equal(codes, []api.Errno{api.ErrRange, api.ErrArg, api.ErrRange, api.ErrRange}) {
		t.Errorf("errors %v", codes)
	}
	deletes(1, 0, 5, 0, "")
	for _, l := range [][]string{{of(1, 4, 62)}, {of(0, 0, 62)}, {of(2, 2, 62), of(0, 2, 62)}} {
		w := work(t, 4, 0, 1)
		put(t, w, l...)
		if n, e := table.Len(w, 1, 62); n != 0 || e != api.ErrTable {
			t.Errorf("%d blocks: Len = %d, %d", len(l), n, e)
		}
	}
	if d.Ops() != 0 {
		t.Errorf("%d operations", d.Ops())
	}
}

// counts is all rows of at most n numbers of cells that the blocks of a table can have.
func counts(fill, n int, choice []int) [][]int {
	all := [][]int{nil}
	for from := 0; from < len(all); from++ {
		l := all[from]
		if len(l) == n {
			continue
		}
		for _, c := range choice {
			if len(l) == 0 || l[len(l)-1]+c > fill {
				all = append(all, append(slices.Clone(l), c))
			}
		}
	}
	return all
}

// sum is how many cells blocks have together.
func sum(counts []int) int {
	n := 0
	for _, c := range counts {
		n += c
	}
	return n
}

// somewhere is a work in which a table lies, in blocks of a heap in any order, every second of them live, the others taken; beside them there is one more that is live, and free ones. It has the heap's live blocks, and the table's reference.
func somewhere(t *testing.T, counts []int, cell, free int) (*blocks.Work, []int, uint32) {
	t.Helper()
	n := len(counts)
	order := rand.New(rand.NewPCG(uint64(sum(counts)), uint64(free))).Perm(n + 1 + free)
	var plan []row
	live := []int{order[n]}
	for k, c := range counts {
		plan = append(plan, row{order[k], cellsOf(cell, c, k)})
		if k%2 == 0 {
			live = append(live, order[k])
		}
	}
	h := heap(t, device(t, len(order)), live...)
	w := begun(t, h)
	for second(w.Take()) == api.OK {
	}
	for k, data := range laid(plan, cell) {
		well(t, w.Write(plan[k].block, []byte(data)))
	}
	for _, b := range order[n+1:] {
		well(t, w.Give(b))
	}
	if n == 0 {
		return w, h.Lives(), 0
	}
	return w, h.Lives(), uint32(order[0] + 1)
}

// P15.4, P15.8: all tables of up to four blocks of Fill 4, into which any number of cells comes anywhere: ahead of all, between two blocks, behind all; an Insert of nothing; indices that there are not.
func TestInsert(t *testing.T) {
	for _, l := range counts(4, 4, []int{1, 2, 3, 4}) {
		for n := range 10 {
			for i := -1; i <= sum(l)+1; i++ {
				w, live, ref := somewhere(t, l, 62, 4)
				stateOf(t, w).inserts(t, fmt.Sprint(l), w, live, ref, 62, i, cellsOf(62, n, 9)...)
			}
		}
	}
}

// P15.5, P15.8: all tables of up to four blocks of Fill 4, and some of five, out of which any cells go: over several blocks, a block's alone, all of them, none; places that there are not.
func TestDelete(t *testing.T) {
	for at, l := range counts(4, 5, []int{1, 2, 3, 4}) {
		if len(l) == 5 && at%5 != 0 {
			continue
		}
		for i := -1; i <= sum(l)+1; i++ {
			for n := -1; n <= sum(l)-i+1; n++ {
				w, live, ref := somewhere(t, l, 62, 2)
				stateOf(t, w).deletes(t, fmt.Sprint(l), w, live, ref, 62, i, n)
			}
		}
	}
}

// P15.4, P15.5: plans whose parts settle one after the other, the first two that can first; which block the cells stand in then.
func TestSettling(t *testing.T) {
	for _, c := range []struct {
		blocks string // letters of the blocks from 0 on
		i, n   int
		in     string
		ref    uint32
		want   string
	}{
		{"a bcde fghi j", 2, 6, "", 1, "0 (abij) "},
		{"a bcde fghi j", 1, 8, "", 1, "0 (aj) "},
		{"a bcde fghi j", 0, 9, "", 4, "3 (j) "},
		{"a bcde fghi jkl", 2, 6, "", 1, "0 (abi) 3 (jkl) "},
		{"abc defg hi", 0, 2, "", 1, "0 (c) 1 (defg) 2 (hi) "},
		{"abc defg hi", 3, 4, "", 1, "0 (abc) 2 (hi) "},
		{"abc defg hi", 2, 5, "", 1, "0 (abhi) "},
		{"abc defg hi", 4, 3, "", 1, "0 (abcd) 2 (hi) "},
		{"abc defg hi", 5, 3, "", 1, "0 (abc) 1 (dei) "},
		// Of three of which each two neighbours could it is the first two.
		{"abcd efgh ij", 2, 5, "", 1, "0 (abh) 2 (ij) "},
		{"abcd efgh ijkl", 2, 8, "", 1, "0 (abkl) "},
		{"ab cde fgh ijk", 3, 4, "", 1, "0 (abch) 3 (ijk) "},
		{"ab cde fgh ijk", 4, 3, "", 1, "0 (abcd) 2 (hijk) "},
		{"abcd e", 1, 0, "x", 1, "0 (axbc) 1 (de) "},
		{"abcd e", 1, 0, "wxyz", 1, "0 (awxy) 2 (zbcd) 1 (e) "},
		{"abcd e", 4, 0, "wxyz", 1, "0 (abcd) 1 (wxyz) 2 (e) "},
		{"abcd e", 5, 0, "wxyz", 1, "0 (abcd) 1 (ewxy) 2 (z) "},
		{"abcd ef", 0, 0, "xyz", 1, "0 (xyza) 2 (bcd) 1 (ef) "},
		{"abcd ef", 0, 0, "xy", 1, "0 (xyab) 1 (cdef) "},
		{"abcd ef", 2, 0, "pqrstu", 1, "0 (abpq) 2 (rstu) 1 (cdef) "},
		{"abc de", 3, 0, "xy", 1, "0 (abc) 1 (xyde) "},
		{"abc de", 2, 0, "x", 1, "0 (abxc) 1 (de) "},
		{"abc de", 2, 0, "xyzpqrstu", 1, "0 (abxy) 2 (zpqr) 3 (stuc) 1 (de) "},
	} {
		var plan []row
		for b, s := range strings.Fields(c.blocks) {
			plan = append(plan, row{b, letters(s)})
		}
		w := work(t, 8, upTo(len(plan))...)
		put(t, w, laid(plan, 62)...)
		var ref uint32
		var e api.Errno
		if c.in == "" {
			ref, e = table.Delete(w, 1, 62, c.i, c.n)
		} else {
			ref, e = table.Insert(w, 1, 62, c.i, listOf(letters(c.in))...)
		}
		// Those of the table that are in no block any more are given.
		given := len(plan) - strings.Count(c.want, "(") + len(w.Taken())
		if got := spelt(t, w, ref); ref != c.ref || e != api.OK || got != c.want || len(w.Given()) != given {
			t.Errorf("%s, %d %d %s: %d, %d, %s, given %v; not %d, %s", c.blocks, c.i, c.n, c.in, ref, e, got, w.Given(), c.ref, c.want)
		}
	}
}

// P15.4, P15.5, P15.8: cells of each size, in tables whose blocks are full, nearly so, half so, or have one.
func TestEachSizeChanged(t *testing.T) {
	for cell := 1; cell <= 62; cell++ {
		n := fill(cell)
		for at, l := range counts(n, 3, []int{1, n / 2, n/2 + 1, n - 1, n}) {
			// A part of the tables for each size, but all of them for some.
			if (at+cell)%9 != 0 && cell != 3 && cell != 30 && cell != 61 {
				continue
			}
			edges := []int{0}
			for k := range l {
				edges = append(edges, sum(l[:k+1])-1, sum(l[:k+1]))
			}
			for k, i := range edges {
				w, live, ref := somewhere(t, l, cell, 4)
				more := []int{1, n - 1, n, n + 1, 2*n + 1}[(at+k)%5]
				ref = stateOf(t, w).inserts(t, fmt.Sprint(l), w, live, ref, cell, i, cellsOf(cell, more, 9)...)
				stateOf(t, w).deletes(t, fmt.Sprint(l), w, live, ref, cell, i, more)
				to := edges[(k+len(edges))/2]
				w, live, ref = somewhere(t, l, cell, 1)
				stateOf(t, w).deletes(t, fmt.Sprint(l), w, live, ref, cell, i, to-i)
			}
		}
	}
}

// P15.4, P15.7: heaps with just as many free blocks as an Insert needs, with one more, and with fewer, down to none: with ErrSpace those that were taken stay so, and nothing is written or given.
func TestInsertWithoutRoom(t *testing.T) {
	short := 0
	for _, l := range counts(4, 3, []int{1, 2, 3, 4}) {
		for n := range 14 {
			for i := range sum(l) + 1 {
				for free := range 5 {
					w, live, ref := somewhere(t, l, 62, free)
					s := stateOf(t, w)
					if s.inserts(t, fmt.Sprint(l, ", ", free, " free"), w, live, ref, 62, i, cellsOf(62, n, 9)...) == 0 && n > 0 {
						short++
						// All are taken now: the next one has no room either, unless it needs none.
						stateOf(t, w).inserts(t, fmt.Sprint(l, ", full"), w, live, ref, 62, i, cellsOf(62, 5, 8)...)
						stateOf(t, w).inserts(t, fmt.Sprint(l, ", full"), w, live, ref, 62, i, cellsOf(62, 1, 8)...)
					}
				}
			}
		}
	}
	if short < 1000 {
		t.Errorf("only %d without room", short)
	}
}

// P15.4, P15.7: an Insert of more cells than any heap takes; a heap without blocks.
func TestInsertOfMany(t *testing.T) {
	for _, cell := range []int{1, 62} {
		w, live, ref := somewhere(t, []int{2, fill(cell)}, cell, 3)
		stateOf(t, w).inserts(t, "many", w, live, ref, cell, 1, cellsOf(cell, 20000, 3)...)
		w = work(t, 0)
		s := stateOf(t, w)
		s.inserts(t, "no blocks", w, nil, 0, cell, 0, rising(cell))
		s.inserts(t, "no blocks", w, nil, 0, cell, 0)
		s.deletes(t, "no blocks", w, nil, 0, cell, 0, 0)
		s.deletes(t, "no blocks", w, nil, 0, cell, 0, 1)
		s.drops(t, "no blocks", w, 0, cell)
		s.tells(t, "no blocks", w, 0, cell)
		w = work(t, 90)
		ref = stateOf(t, w).inserts(t, "90 blocks", w, nil, 0, cell, 0, cellsOf(cell, 90*fill(cell), 3)...)
		stateOf(t, w).inserts(t, "90 blocks, full", w, nil, ref, cell, 0, rising(cell))
		stateOf(t, w).deletes(t, "90 blocks", w, nil, ref, cell, 3, 80*fill(cell))
	}
}

// P15.4, P15.5: places at the ends of ints, and sums that pass them; cells of other lengths, which are told ahead of such a place, wherever among the others they stand.
func TestPlacesAndLengths(t *testing.T) {
	for _, l := range [][]int{nil, {1}, {4}, {3, 4, 2}} {
		w, live, ref := somewhere(t, l, 62, 2)
		s := stateOf(t, w)
		name := fmt.Sprint(l)
		for _, i := range append(odd(), sum(l)+1, sum(l)+2) {
			s.inserts(t, name, w, live, ref, 62, i, rising(62))
			s.inserts(t, name, w, live, ref, 62, i)
			s.inserts(t, name, w, live, ref, 62, i, rising(62), rising(61))
			s.deletes(t, name, w, live, ref, 62, i, 0)
			s.deletes(t, name, w, live, ref, 62, 0, i)
			for _, n := range append(odd(), 1, sum(l)) {
				s.deletes(t, name, w, live, ref, 62, i, n)
				s.deletes(t, name, w, live, ref, 62, n, i)
			}
			if c, e := table.Get(w, ref, 62, i); len(c) != 0 || e != api.ErrRange {
				t.Errorf("%s: Get(%d) = %q, %d", name, i, c, e)
			}
		}
		for _, length := range []int{0, 1, 61, 63, 124, 248} {
			for at := range 3 {
				cells := cellsOf(62, 3, 2)
				cells[at] = rising(length)
				for i := range sum(l) + 1 {
					s.inserts(t, name, w, live, ref, 62, i, cells...)
				}
			}
			s.inserts(t, name, w, live, ref, 62, 0, rising(length))
		}
		s.is(t, name, w)
	}
}

// P15.3: cells of tables put anew, with the same bytes and with others, and of wrong lengths; cells that there are not, which are told ahead of a wrong length.
func TestPut(t *testing.T) {
	for _, cell := range []int{1, 2, 49, 61, 62} {
		n := fill(cell)
		for _, l := range counts(n, 3, []int{1, n/2 + 1, n}) {
			w, _, ref := somewhere(t, l, cell, 1)
			name := fmt.Sprint(l)
			places := append(odd(), sum(l)+1)
			for k := range l {
				places = append(places, sum(l[:k]), sum(l[:k])+l[k]/2, sum(l[:k+1])-1)
			}
			for _, i := range append(places, sum(l)) {
				// Another one, the same again, and a third one.
				for _, b := range []string{rising(cell), rising(cell), zeros(cell)} {
					for _, length := range []int{0, cell - 1, cell + 1, 248, 256, cell} {
						stateOf(t, w).puts(t, name, w, ref, cell, i, (b + rising(256))[:length])
					}
				}
			}
		}
	}
}

// P15.2: each cell of tables, by its number.
func TestGet(t *testing.T) {
	for _, cell := range []int{1, 2, 49, 61, 62} {
		for _, l := range counts(fill(cell), 3, []int{1, fill(cell)/2 + 1, fill(cell)}) {
			w, _, ref := somewhere(t, l, cell, 1)
			plan, _ := stateOf(t, w).table(ref, cell)
			for i, want := range listed(plan) {
				if c, e := table.Get(w, ref, cell, i); string(c) != want || e != api.OK {
					t.Fatalf("%v: Get(%d) = %q, %d; not %q", l, i, c, e, want)
				}
			}
		}
	}
}

// P15.4 to P15.6: cells of any bytes: those that are 0, and those that look like a block's head.
func TestAnyCells(t *testing.T) {
	for _, cell := range []int{1, 8, 62} {
		w := work(t, 9, 2)
		ref := uint32(0)
		for i, c := range []string{zeros(62), "\x01\x00\x00\x00\x04\x00\x3e\x00" + zeros(54), rising(62), zeros(61) + "\x01", "\xff" + zeros(61)} {
			for range 5 {
				ref = stateOf(t, w).inserts(t, "any cells", w, []int{2}, ref, cell, i, c[:cell])
				ref = stateOf(t, w).inserts(t, "any cells", w, []int{2}, ref, cell, 0, c[62-cell:])
			}
		}
		for range 40 {
			ref = stateOf(t, w).deletes(t, "any cells", w, []int{2}, ref, cell, 5, 1)
		}
		stateOf(t, w).drops(t, "any cells", w, ref, cell)
	}
}
