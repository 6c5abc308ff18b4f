package table_test

import (
	"fmt"
	"math/rand/v2"
	"slices"
	"testing"

	"vellum/api"
	"vellum/blocks"
	"vellum/table"
)

// P15.1: all sizes of cells, those around them, and those at the ends of ints.
func TestFill(t *testing.T) {
	for cell := 1; cell <= 62; cell++ {
		if got := table.Fill(cell); got != fill(cell) {
			t.Errorf("Fill(%d) = %d, not %d", cell, got, fill(cell))
		}
	}
	for _, cell := range noSizes() {
		if got := table.Fill(cell); got != 0 {
			t.Errorf("Fill(%d) = %d", cell, got)
		}
	}
}

// P15.2, P15.3, P15.6: right tables with cells of each size, asked for cells of each size: just with their own they are tables.
func TestEachSize(t *testing.T) {
	w := work(t, 4, 0, 1, 2)
	for cell := 1; cell <= 62; cell++ {
		n := fill(cell)
		put(t, w, of(3, n, cell), of(0, 2, cell), of(2, n-1, cell))
		s := stateOf(t, w)
		for other := 1; other <= 62; other++ {
			for ref := range uint32(6) {
				if is := s.tells(t, "sizes", w, ref, other); is != (ref == 0 || ref <= 3 && cell == other) {
					t.Fatalf("size %d asked for %d, reference %d: %v", cell, other, ref, is)
				}
			}
		}
		// The last two together are just Fill: so what begins with them is none, and what leads there neither.
		put(t, w, of(2, n, cell), of(3, 1, cell), of(0, n-1, cell))
		if stateOf(t, w).tells(t, "sizes", w, 1, cell) || stateOf(t, w).tells(t, "sizes", w, 2, cell) {
			t.Fatalf("size %d: too few cells, and a table", cell)
		}
	}
}

// P15.2: each single bit of a table's blocks turned, in a table of three blocks: whether that is a table, and which. Of live blocks and of taken ones.
func TestEachBit(t *testing.T) {
	for _, c := range []struct{ cell, last, live int }{{1, 3, 1}, {7, 20, 3}, {50, 1, 3}, {50, 4, 0}, {62, 1, 0}, {62, 3, 3}, {62, 4, 2}} {
		w := work(t, 5, upTo(c.live)...)
		for range 3 - c.live {
			well(t, second(w.Take()))
		}
		right := []string{of(2, fill(c.cell), c.cell), of(3, fill(c.cell), c.cell), of(0, c.last, c.cell)}
		put(t, w, right...)
		tables, inCells := 0, 0
		for b, data := range right {
			for bit := range 8 * 256 {
				turned := []byte(data)
				turned[bit/8] ^= 1 << (bit % 8)
				well(t, w.Write(b, turned))
				if stateOf(t, w).tells(t, fmt.Sprint("bit ", bit, " of block ", b), w, 1, c.cell) {
					tables++
					if bit >= 64 {
						inCells++
					}
				}
			}
			well(t, w.Write(b, []byte(data)))
		}
		// Each bit of a cell may be turned; and the first one's reference from 2 to 3 or 0, at least.
		if want := 8 * c.cell * (2*fill(c.cell) + c.last); inCells != want || tables < want+2 {
			t.Errorf("%v: %d are tables, %d of them with another cell, not %d", c, tables, inCells, want)
		}
	}
}

// forms is bytes of a block for cells of a size: right ones, and wrong ones of each kind, with a reference.
func forms(next uint32, cell int) []string {
	n := fill(cell)
	var l []string
	for _, count := range []int{0, 1, 2, n - 1, n, n + 1, 248, 249, 255, 256, 257, 256 + n, 1 << 15, 1<<16 - 1} {
		in := min(count, n) * cell
		right := blockOf(next, count, cell, rising(in))
		l = append(l, right, over(right, 8, zeros(248)), over(right, 6, "\x00"), over(right, 6, string([]byte{byte(cell + 1)})), over(right, 7, "\x01"), blockOf(next, count, cell, rising(248)))
		if in < 248 {
			l = append(l, over(right, 8+in, "\x01"), over(right, 255, "\xff"))
		}
	}
	return l
}

// P15.2, P15.6: wrong and right blocks of each kind as the first, the middle and the last one: with 0 cells, with more than Fill, of another size, bytes behind the cells, neighbours with too few; what is no table is not dropped, nor changed by any call.
func TestEachForm(t *testing.T) {
	for _, cell := range []int{1, 31, 49, 62} {
		var all []string
		for _, next := range append(far(), 0, 1, 2, 3, 4, 5) {
			all = append(all, forms(next, cell)...)
		}
		for place := range 3 {
			tables := 0
			for i, data := range all {
				name := fmt.Sprint("form ", i, " of ", cell, " in block ", place)
				w := work(t, 6, 0, 1, 2)
				l := []string{of(2, fill(cell), cell), of(3, fill(cell)-1, cell), of(0, 2, cell)}
				l[place] = data
				put(t, w, l...)
				s := stateOf(t, w)
				if s.tells(t, name, w, 1, cell) {
					tables++
				} else {
					// Of what is none nothing is changed, nor given.
					s.puts(t, name, w, 1, cell, 0, rising(cell))
					s.inserts(t, name, w, []int{0, 1, 2}, 1, cell, 0, rising(cell))
					s.deletes(t, name, w, []int{0, 1, 2}, 1, cell, 0, 1)
				}
				s.drops(t, name, w, 1, cell)
			}
			if tables < 3 {
				t.Errorf("block %d, cells of %d bytes: only %d are tables", place, cell, tables)
			}
		}
	}
}

// P15.2: each form with each in two blocks.
func TestEachTwoForms(t *testing.T) {
	for _, cell := range []int{50, 62} {
		w := work(t, 3, 0, 1)
		var all []string
		for _, next := range []uint32{0, 1, 2, 3} {
			all = append(all, forms(next, cell)...)
		}
		for i, first := range all {
			for j, other := range all {
				// Most pairs tell nothing new: one of them is wrong by itself.
				if i%7 > 1 && j%7 > 1 {
					continue
				}
				s := state{blocks: []string{first, other, ""}}
				put(t, w, first, other)
				for ref := range uint32(3) {
					s.tells(t, fmt.Sprint("forms ", i, " and ", j), w, ref, cell)
				}
			}
		}
	}
}

// P15.2: all ways in which three blocks with any numbers of cells can lead to each other, to themselves and to a block that is not in use: those that lead back are no tables, nor those with too few cells in two neighbours.
func TestEachShape(t *testing.T) {
	w := work(t, 4, 0, 1, 2)
	tables := 0
	for shape := range 20 * 20 * 20 {
		s := state{blocks: make([]string, 4)}
		rest := shape
		for b := range 3 {
			s.blocks[b] = of(uint32(rest%5), rest/5%4+1, 62)
			rest /= 20
		}
		put(t, w, s.blocks[:3]...)
		for ref := range uint32(6) {
			if s.tells(t, fmt.Sprint("shape ", shape), w, ref, 62) && ref > 0 {
				tables++
			}
		}
	}
	// Of one block, of two, of three: how many ways there are by hand.
	const one, two, three = 3 * 4 * 20 * 20, 6 * 10 * 20, 6 * 30
	if tables != one+two+three {
		t.Errorf("%d tables, not %d", tables, one+two+three)
	}
}

// P15.2, R1: all ways in which four full blocks can lead to each other.
func TestEachLongerShape(t *testing.T) {
	w := work(t, 5, 0, 1, 2, 3)
	for shape := range 6 * 6 * 6 * 6 {
		s := state{blocks: make([]string, 5)}
		rest := shape
		for b := range 4 {
			s.blocks[b] = of(uint32(rest%6), 4, 62)
			rest /= 6
		}
		put(t, w, s.blocks[:4]...)
		for ref := range uint32(7) {
			s.tells(t, fmt.Sprint("shape ", shape), w, ref, 62)
		}
	}
}

// mixed is a work of n blocks, each of which is free, live, taken or given, as the digits of a number say, to the base of four.
func mixed(t *testing.T, n, kinds int) *blocks.Work {
	t.Helper()
	var live, given, free []int
	for b := range n {
		switch kinds >> (2 * b) & 3 {
		case 0:
			free = append(free, b)
		case 1:
			live = append(live, b)
		case 2:
			given, live = append(given, b), append(live, b)
		}
	}
	w := work(t, n, live...)
	for second(w.Take()) == api.OK {
	}
	// Written while they are in use: so a right block stands in each that is not any more.
	for b := range n {
		well(t, w.Write(b, []byte(of(0, 4, 62))))
	}
	for _, b := range slices.Concat(given, free) {
		well(t, w.Give(b))
	}
	return w
}

// P15.2, P15.6: tables all of whose blocks are live, taken, given or free, in all ways: those in use are told, and given by Drop; where one is not it is no table, and nothing is done.
func TestEachUse(t *testing.T) {
	orders := [][]int{{0, 1, 2}, {2, 1, 0}, {1, 2, 0}, {0, 2}, {1}}
	for kinds := range 4 * 4 * 4 {
		for _, order := range orders {
			w := mixed(t, 3, kinds)
			for i, b := range order {
				next := uint32(0)
				if i+1 < len(order) {
					next = uint32(order[i+1] + 1)
				}
				// ErrBlock of those that are not in use.
				w.Write(b, []byte(of(next, 4, 62)))
			}
			s := stateOf(t, w)
			name := fmt.Sprint("kinds ", kinds, ", order ", order)
			for ref := range uint32(5) {
				s.tells(t, name, w, ref, 62)
			}
			ref := uint32(order[0] + 1)
			s.drops(t, name, w, ref, 62)
			// Not in use any more, or never: no table either way.
			s = stateOf(t, w)
			if s.tells(t, name+", dropped", w, ref, 62) {
				t.Fatalf("%s: dropped, and a table", name)
			}
			s.drops(t, name+", dropped", w, ref, 62)
		}
	}
}

// P15.2 to P15.6: references to blocks that there are not, asked for and led to.
func TestFarReferences(t *testing.T) {
	live := []int{0, 1, 2}
	w := work(t, 5, live...)
	right := []string{of(0, 4, 62), of(0, 4, 62), of(0, 4, 62)}
	put(t, w, right...)
	s := stateOf(t, w)
	for _, ref := range append(far(), 4, 5, 6, 7, 256, 257, 258, 16384) {
		if s.tells(t, "far", w, ref, 62) {
			t.Errorf("a table at %d", ref)
		}
		s.puts(t, "far", w, ref, 62, 0, rising(62))
		s.inserts(t, "far", w, live, ref, 62, 0, rising(62))
		s.inserts(t, "far", w, live, ref, 62, 0)
		s.deletes(t, "far", w, live, ref, 62, 0, 0)
		s.drops(t, "far", w, ref, 62)
		put(t, w, of(ref, 4, 62))
		led := stateOf(t, w)
		if led.tells(t, "led far", w, 1, 62) {
			t.Errorf("a table that leads to %d", ref)
		}
		led.inserts(t, "led far", w, live, 1, 62, 0, rising(62))
		led.drops(t, "led far", w, 1, 62)
		put(t, w, right...)
	}
	s.is(t, "behind far ones", w)
}

// P15.2: a reference into the midst of a table is one of what stands from there on; two that end in the same blocks are tables both, until one of them is dropped.
func TestTablesWithOneEnd(t *testing.T) {
	w := work(t, 6, upTo(6)...)
	put(t, w, of(2, 3, 62), of(3, 4, 62), of(0, 2, 62), of(3, 3, 62), of(1, 2, 62), of(6, 4, 62))
	s := stateOf(t, w)
	for ref, want := range map[uint32][]int{1: {0, 1, 2}, 2: {1, 2}, 3: {2}, 4: {3, 2}, 5: {4, 0, 1, 2}} {
		if l, e := table.Blocks(w, ref, 62); !slices.Equal(l, want) || e != api.OK || !s.tells(t, "one end", w, ref, 62) {
			t.Errorf("Blocks(%d) = %v, %d", ref, l, e)
		}
	}
	s.drops(t, "one end", w, 4, 62)
	s = stateOf(t, w)
	for ref := range uint32(8) {
		if s.tells(t, "one end, dropped", w, ref, 62) && ref != 0 {
			t.Errorf("a table at %d", ref)
		}
		s.drops(t, "one end, dropped", w, ref, 62)
	}
}

// led writes a chain over blocks in an order: blocks with one cell and with Fill, in turn; the last one has a reference.
func led(t *testing.T, w *blocks.Work, order []int, cell int, last uint32) uint32 {
	t.Helper()
	for i, b := range order {
		next := last
		if i+1 < len(order) {
			next = uint32(order[i+1] + 1)
		}
		well(t, w.Write(b, []byte(of(next, []int{1, fill(cell)}[i%2], cell))))
	}
	return uint32(order[0] + 1)
}

// P15.2, P15.6, R1: long tables, up to all blocks of a heap, in any order; what leads back to the first one, into the midst, to the last one, or to what is not in use, is none.
func TestLongTables(t *testing.T) {
	r := rand.New(rand.NewPCG(15, 1))
	const n = 300
	for _, count := range []int{1, 2, 3, 200, n - 1, n} {
		for _, cell := range []int{1, 62} {
			w := work(t, n, upTo(count)...)
			order := r.Perm(count)
			name := fmt.Sprint(count, " blocks, cells of ", cell)
			for _, last := range []uint32{uint32(order[0] + 1), uint32(order[count/2] + 1), uint32(order[count-1] + 1), n + 1, 1<<32 - 1} {
				ref := led(t, w, order, cell, last)
				s := stateOf(t, w)
				if s.tells(t, name+", a next one", w, ref, cell) {
					t.Errorf("%s, leading to %d: a table", name, last)
				}
				s.drops(t, name+", a next one", w, ref, cell)
			}
			ref := led(t, w, order, cell, 0)
			s := stateOf(t, w)
			if !s.tells(t, name, w, ref, cell) {
				t.Errorf("%s: no table", name)
			}
			s.drops(t, name, w, ref, cell)
		}
	}
}

// P15.2, R1: a table in all blocks of the greatest device, and one that leads back there.
func TestTheGreatestDevice(t *testing.T) {
	const n = (api.MaxSize - heapAt) / 256
	w := work(t, n, upTo(n)...)
	order := rand.New(rand.NewPCG(15, 2)).Perm(n)
	ref := led(t, w, order, 62, 0)
	stateOf(t, w).tells(t, "the greatest device", w, ref, 62)
	if k, e := table.Len(w, ref, 62); k != (n+1)/2+n/2*4 || e != api.OK {
		t.Errorf("Len = %d, %d", k, e)
	}
	led(t, w, order, 62, ref)
	if k, e := table.Len(w, ref, 62); k != 0 || e != api.ErrTable {
		t.Errorf("led back: Len = %d, %d", k, e)
	}
}

// P15.2 to P15.8: blocks of any bytes, and blocks that are nearly right, whatever leads where: every call ends, and tells what the words say.
func TestAnyBlocks(t *testing.T) {
	r := rand.New(rand.NewPCG(15, 3))
	tables, none := 0, 0
	for range 4000 {
		n := 1 + r.IntN(8)
		w := mixed(t, n, int(r.Uint32()))
		for b := range n {
			// ErrBlock of those that are not in use.
			w.Write(b, []byte(anyBlock(r, n)))
		}
		s := stateOf(t, w)
		for ref := range uint32(n + 2) {
			if s.tells(t, "any blocks", w, ref, 62) {
				tables++
			} else {
				none++
			}
			s.tells(t, "any blocks", w, ref, 61)
		}
		for range 3 {
			stateOf(t, w).drops(t, "any blocks", w, uint32(r.IntN(n+2)), 62)
		}
	}
	if tables < 6000 || none < 6000 {
		t.Errorf("%d tables, %d that are none", tables, none)
	}
}

// anyBlock is bytes of a block, most often right ones or nearly so.
func anyBlock(r *rand.Rand, n int) string {
	switch r.IntN(8) {
	case 0:
		b := make([]byte, 256)
		for i := range b {
			b[i] = byte(r.Uint32())
		}
		return string(b)
	case 1, 2:
		return of(0, 1+r.IntN(4), 62)
	case 3:
		return over(of(uint32(r.IntN(n+2)), 4, 62), r.IntN(8), string([]byte{byte(r.IntN(6))}))
	default:
		return of(uint32(r.IntN(n+2)), 2+r.IntN(3), 62)
	}
}
