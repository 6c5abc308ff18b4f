package table_test

import (
	"bytes"
	"fmt"
	"maps"
	"math/rand/v2"
	"slices"
	"testing"

	"vellum/api"
	"vellum/blocks"
	"vellum/pmem"
	"vellum/table"
)

// live holds which blocks of a heap are.
func live(t *testing.T, name string, h *blocks.Heap, want ...int) {
	t.Helper()
	if l := h.Lives(); !slices.Equal(l, want) {
		t.Fatalf("%s: live are %v, not %v", name, l, want)
	}
}

// noWorks is works that are none: nil, and ones that no call made, also while the device of what they were copied from is off, or that one is over.
func noWorks(t *testing.T) []*blocks.Work {
	t.Helper()
	w := work(t, 8, 0)
	over := work(t, 8, 0)
	well(t, over.Drop())
	d := device(t, 8)
	off := begun(t, heap(t, d, 0))
	well(t, d.Crash())
	byHand, byHandOver, byHandOff := *w, *over, *off
	return []*blocks.Work{nil, {}, &byHand, &byHandOver, &byHandOff}
}

// ended is works that are over, by each call that ends one.
func ended(t *testing.T) map[string]*blocks.Work {
	t.Helper()
	l := map[string]*blocks.Work{}
	for name, end := range map[string]func(w *blocks.Work, d *pmem.Device){
		"Drop":   func(w *blocks.Work, d *pmem.Device) { well(t, w.Drop()) },
		"Commit": func(w *blocks.Work, d *pmem.Device) { well(t, w.Commit()) },
		"off and on again": func(w *blocks.Work, d *pmem.Device) {
			well(t, d.Crash())
			if e := second(table.Len(w, 0, 62)); e != api.ErrOff {
				t.Fatalf("off: Len = %d", e)
			}
			well(t, d.Wake())
		},
		"over, and off": func(w *blocks.Work, d *pmem.Device) { well(t, w.Drop(), d.Crash()) },
	} {
		d := device(t, 8)
		w := begun(t, heap(t, d, 0))
		well(t, second(table.Insert(w, 0, 62, 0, listOf(cellsOf(62, 9, 0))...)))
		end(w, d)
		l[name] = w
	}
	return l
}

// refuses holds what all calls answer of a work, a reference and a size against an error, whatever else is wrong; anew is asked for each call.
func refuses(t *testing.T, name string, want api.Errno, anew func() *blocks.Work, ref uint32, cell int) {
	t.Helper()
	name = fmt.Sprint(name, ", reference ", ref, ", cells of ", cell)
	if n, e := table.Len(anew(), ref, cell); n != 0 || e != want {
		t.Errorf("%s: Len = %d, %d; not %d", name, n, e, want)
	}
	if l, e := table.Cells(anew(), ref, cell); len(l) != 0 || e != want {
		t.Errorf("%s: Cells = %q, %d; not %d", name, l, e, want)
	}
	if l, e := table.Blocks(anew(), ref, cell); len(l) != 0 || e != want {
		t.Errorf("%s: Blocks = %v, %d; not %d", name, l, e, want)
	}
	if e := table.Drop(anew(), ref, cell); e != want {
		t.Errorf("%s: Drop = %d, not %d", name, e, want)
	}
	for _, i := range []int{-1, 0, 1 << 40} {
		if c, e := table.Get(anew(), ref, cell, i); len(c) != 0 || e != want {
			t.Errorf("%s: Get(%d) = %q, %d; not %d", name, i, c, e, want)
		}
		if got, e := table.Delete(anew(), ref, cell, i, 0); got != 0 || e != want {
			t.Errorf("%s: Delete(%d, 0) = %d, %d; not %d", name, i, got, e, want)
		}
		if got, e := table.Delete(anew(), ref, cell, i, 1); got != 0 || e != want {
			t.Errorf("%s: Delete(%d, 1) = %d, %d; not %d", name, i, got, e, want)
		}
		if got, e := table.Insert(anew(), ref, cell, i); got != 0 || e != want {
			t.Errorf("%s: Insert(%d) of none = %d, %d; not %d", name, i, got, e, want)
		}
		for _, b := range []string{"", rising(61), rising(62), rising(248)} {
			if e := table.Put(anew(), ref, cell, i, []byte(b)); e != want {
				t.Errorf("%s: Put(%d) of %d bytes = %d, not %d", name, i, len(b), e, want)
			}
			if got, e := table.Insert(anew(), ref, cell, i, []byte(b)); got != 0 || e != want {
				t.Errorf("%s: Insert(%d) of %d bytes = %d, %d; not %d", name, i, len(b), got, e, want)
			}
		}
	}
}

// P15.2 to P15.6, R3: works that are none, that are over, or whose device is off: what their Root answers, ahead of all else.
func TestWorksThatMayNotBe(t *testing.T) {
	for _, ref := range append(far(), 0, 1, 2, 9) {
		for _, cell := range append(noSizes(), 1, 61, 62) {
			for i, w := range noWorks(t) {
				refuses(t, fmt.Sprint("none ", i), api.ErrNil, func() *blocks.Work { return w }, ref, cell)
			}
		}
	}
	over := ended(t)
	for _, ref := range append(far(), 0, 1, 2, 9) {
		for _, cell := range append(noSizes(), 1, 61, 62) {
			for name, w := range over {
				refuses(t, name, api.ErrState, func() *blocks.Work { return w }, ref, cell)
			}
		}
	}
	for _, ref := range []uint32{0, 2, 9, 1<<32 - 1} {
		for _, cell := range []int{-1, 0, 61, 62, 63} {
			var last *blocks.Work
			refuses(t, "off", api.ErrOff, func() *blocks.Work {
				// A new one each time: behind ErrOff it is over.
				if last != nil {
					if e := last.Drop(); e != api.ErrState {
						t.Errorf("off: not over, %d", e)
					}
				}
				d := device(t, 8)
				last = begun(t, heap(t, d, 0))
				well(t, second(table.Insert(last, 0, 62, 0, listOf(cellsOf(62, 9, 0))...)), d.Crash())
				return last
			}, ref, cell)
		}
	}
}

// P15.2 to P15.6: sizes that no cell has, ahead of references that are no table's; these, and those of a table with cells of another size, ahead of all else. Nothing is changed.
func TestSizesAndReferences(t *testing.T) {
	d := device(t, 8)
	was := d.Copy()
	w := begun(t, heap(t, d, 0, 1))
	ref, e := table.Insert(w, 0, 62, 0, listOf(cellsOf(62, 9, 0))...)
	well(t, e, w.Give(1))
	s := stateOf(t, w)
	anew := func() *blocks.Work { return w }
	// A reference to what is in use and no table's, to what was given, to what is free, to what is not.
	none := append(far(), 1, 2, 6, 8, 9)
	for _, cell := range noSizes() {
		for _, r := range append(none, 0, ref) {
			refuses(t, "a wrong size", api.ErrArg, anew, r, cell)
		}
	}
	for _, cell := range []int{1, 2, 31, 50, 61, 62} {
		for _, r := range none {
			refuses(t, "no table", api.ErrTable, anew, r, cell)
		}
		if cell != 62 {
			refuses(t, "another size", api.ErrTable, anew, ref, cell)
		}
	}
	s.is(t, "behind errors", w)
	untouched(t, "behind errors", d, was)
}

// roomy is bytes with room behind their end, and that room with something in it.
func roomy(s string) []byte { return append([]byte(s), rising(40)...)[:len(s)] }

// R5: what is handed in is not changed, nor the room behind it, and not kept: changed later it changes nothing.
func TestWhatIsHandedIn(t *testing.T) {
	w, live, ref := somewhere(t, []int{3, 4, 2}, 62, 5)
	for n := range 9 {
		for i := range 10 {
			cells := cellsOf(62, n, i)
			l := make([][]byte, 0, n+3)
			for _, c := range cells {
				l = append(l, roomy(c))
			}
			before := stateOf(t, w)
			plan, _ := before.table(ref, 62)
			want := slices.Insert(listed(plan), i, cells...)
			got, e := table.Insert(w, ref, 62, i, l...)
			well(t, e)
			for k, c := range l {
				if string(c) != cells[k] || string(c[:102][62:]) != rising(40) {
					t.Fatalf("cell %d was changed", k)
				}
			}
			for _, c := range l[:cap(l)][n:] {
				if c != nil {
					t.Fatal("the room behind the list was changed")
				}
			}
			s := stateOf(t, w)
			for _, c := range l {
				clear(c[:102])
			}
			clear(l)
			s.is(t, "changed later", w)
			s.whole(t, "changed later", w, got, 62, want)
			ref = s.deletes(t, "again", w, live, got, 62, i, n)
		}
	}
	b := roomy(rising(62))
	well(t, table.Put(w, ref, 62, 5, b))
	if string(b[:102]) != rising(62)+rising(40) {
		t.Error("Put has changed what it was handed")
	}
	s := stateOf(t, w)
	clear(b[:102])
	s.is(t, "Put, changed later", w)
}

// R5: what is told is new memory: changed by the caller, made longer, and told again; no two cells share any.
func TestNewMemory(t *testing.T) {
	for _, cell := range []int{1, 50, 62} {
		w, _, ref := somewhere(t, []int{3, fill(cell), 2}, cell, 2)
		s := stateOf(t, w)
		want, _ := s.table(ref, cell)
		l, e := table.Cells(w, ref, cell)
		well(t, e)
		for i := range l {
			// Longer into whatever stands behind it.
			_ = append(l[i], rising(60)...)
			clear(l[i][:cap(l[i])])
			for k := range l {
				if k > i && string(l[k]) != listed(want)[k] {
					t.Fatalf("cells of %d bytes: %d and %d share memory", cell, i, k)
				}
			}
		}
		clear(l[:cap(l)])
		s.tells(t, "cells that were changed", w, ref, cell)
		for i := range listed(want) {
			c, e := table.Get(w, ref, cell, i)
			well(t, e)
			clear(c[:cap(c)])
		}
		s.tells(t, "a cell that was changed", w, ref, cell)
		b, e := table.Blocks(w, ref, cell)
		well(t, e)
		clear(b[:cap(b)])
		s.tells(t, "blocks that were changed", w, ref, cell)
		s.is(t, "behind all", w)

		l, e = table.Cells(w, ref, cell)
		well(t, e, table.Drop(w, ref, cell))
		if !slices.Equal(textsOf(l), listed(want)) {
			t.Errorf("cells of %d bytes: what was told has changed", cell)
		}
	}
}

// committed is a heap with a table in it, all of its blocks live and none beside them but the last one.
func committed(t *testing.T, d *pmem.Device, cell int, counts ...int) (*blocks.Heap, uint32) {
	t.Helper()
	last := (d.Size()-heapAt)/256 - 1
	h := heap(t, d, last)
	w := begun(t, h)
	var plan []row
	for k, c := range counts {
		b, e := w.Take()
		well(t, e)
		plan = append(plan, row{b, cellsOf(cell, c, k)})
	}
	// From the last one back to the first.
	for k := range plan {
		plan[k].block = len(plan) - 1 - k
	}
	for k, data := range laid(plan, cell) {
		well(t, w.Write(plan[k].block, []byte(data)))
	}
	well(t, w.Commit())
	if len(plan) == 0 {
		return h, 0
	}
	return h, uint32(len(plan))
}

// done is a device on which a work was committed that takes, gives and writes what a plan says, told as the words do, of a table that was committed.
func done(t *testing.T, d *pmem.Device, h *blocks.Heap, ref uint32, cell int, change func(plan []row) []row) *pmem.Device {
	t.Helper()
	other := d.Copy()
	lives := h.Lives()
	w := begun(t, heap(t, other, lives...))
	s := stateOf(t, w)
	plan, _ := s.table(ref, cell)
	next, written, _, code := s.carried(change(slices.Clone(plan)), blocksOf(plan), cell, lives)
	well(t, code)
	for range next.taken {
		well(t, second(w.Take()))
	}
	for _, b := range next.given {
		well(t, w.Give(b))
	}
	for _, b := range written {
		well(t, w.Write(b, []byte(next.blocks[b])))
	}
	next.is(t, "by hand", w)
	well(t, w.Commit())
	return other
}

// same holds that two devices hold the same, by as many operations.
func same(t *testing.T, name string, d, want *pmem.Device) {
	t.Helper()
	if d.Ops() != want.Ops() || !bytes.Equal(d.Image(), want.Image()) {
		t.Fatalf("%s: %d operations, not %d, or other bytes", name, d.Ops(), want.Ops())
	}
}

// P15.3 to P15.7: tables that were committed, and are changed in a later work: what is taken, given and written there, told by the operations of its Commit: blocks whose bytes stay are not written.
func TestLaterChanges(t *testing.T) {
	for _, l := range counts(4, 4, []int{1, 3, 4}) {
		for i := range sum(l) + 1 {
			for n := range max(sum(l)-i, 9) + 1 {
				if (i+n)%2 == 0 && n > 2 {
					continue
				}
				name := fmt.Sprint(l, ", ", n, " at ", i)
				d := device(t, 12)
				h, ref := committed(t, d, 62, l...)
				if n > 0 {
					in := cellsOf(62, n, 7)
					want := done(t, d, h, ref, 62, func(plan []row) []row { return inserted(plan, 62, i, in) })
					changed(t, name+", Insert", d, h, want, func(w *blocks.Work) api.Errno {
						return second(table.Insert(w, ref, 62, i, listOf(in)...))
					})
				}
				if i+n <= sum(l) {
					d := device(t, 12)
					h, ref := committed(t, d, 62, l...)
					want := done(t, d, h, ref, 62, func(plan []row) []row { return deleted(plan, 62, i, n) })
					changed(t, name+", Delete", d, h, want, func(w *blocks.Work) api.Errno {
						return second(table.Delete(w, ref, 62, i, n))
					})
				}
			}
		}
	}
}

// changed makes a change in a work of a heap, commits it, and holds the device against another one; a work that was dropped has changed nothing.
func changed(t *testing.T, name string, d *pmem.Device, h *blocks.Heap, want *pmem.Device, change func(w *blocks.Work) api.Errno) {
	t.Helper()
	was, lives := d.Copy(), h.Lives()
	w := begun(t, h)
	well(t, change(w), w.Drop())
	untouched(t, name, d, was)
	live(t, name, h, lives...)
	w = begun(t, h)
	well(t, change(w))
	untouched(t, name, d, was)
	well(t, w.Commit())
	same(t, name, d, want)
}

// P15.3: a Put of what stands there writes nothing; of something else one block, also if that is what was there ahead of this work.
func TestPutsThatWrite(t *testing.T) {
	for i := range 9 {
		d := device(t, 6)
		h, ref := committed(t, d, 62, 3, 4, 2)
		again := func(w *blocks.Work) api.Errno {
			c, e := table.Get(w, ref, 62, i)
			well(t, e)
			return table.Put(w, ref, 62, i, c)
		}
		was := d.Copy()
		changed(t, "the same", d, h, was, again)

		w := begun(t, h)
		plan, _ := stateOf(t, w).table(ref, 62)
		well(t, w.Drop())
		block, data := 0, ""
		for at, k := i, 0; k < len(plan); k++ {
			if at >= 0 && at < len(plan[k].cells) {
				plan[k].cells[at] = zeros(62)
				block, data = plan[k].block, laid(plan, 62)[k]
			}
			at -= len(plan[k].cells)
		}
		want := d.Copy()
		other := begun(t, heap(t, want, h.Lives()...))
		well(t, other.Write(block, []byte(data)), other.Commit())
		changed(t, "another one", d, h, want, func(w *blocks.Work) api.Errno {
			return table.Put(w, ref, 62, i, make([]byte, 62))
		})
		// There and back: the block was written, and holds what it held.
		want = d.Copy()
		other = begun(t, heap(t, want, h.Lives()...))
		well(t, other.Write(block, []byte(data)), other.Commit())
		changed(t, "there and back", d, h, want, func(w *blocks.Work) api.Errno {
			well(t, table.Put(w, ref, 62, i, []byte(rising(62))))
			return table.Put(w, ref, 62, i, make([]byte, 62))
		})
	}
}

// P15.4: a block that was taken just now is written also if its bytes stand there already.
func TestTakenBlocksAreWritten(t *testing.T) {
	d := device(t, 4)
	w := begun(t, heap(t, d))
	cells := cellsOf(62, 7, 3)
	well(t, second(table.Insert(w, 0, 62, 0, listOf(cells)...)), w.Commit())
	// A new heap, of which nothing is live: but the bytes are there.
	h := heap(t, d)
	before := d.Ops()
	w = begun(t, h)
	ref, e := table.Insert(w, 0, 62, 0, listOf(cells)...)
	well(t, e, w.Commit())
	// A word and a line at a time, and one Fence.
	if got := d.Ops() - before; ref != 1 || got != 2*(32+4)+1 {
		t.Errorf("reference %d, %d operations", ref, got)
	}
	live(t, "again", h, 0, 1)
}

// P15.6: a Drop in a later work writes nothing; the blocks are free behind its Commit, no sooner.
func TestLaterDrop(t *testing.T) {
	d := device(t, 6)
	h, ref := committed(t, d, 50, 2, 4, 1)
	was := d.Copy()
	w := begun(t, h)
	stateOf(t, w).drops(t, "later", w, ref, 50)
	again := stateOf(t, w).inserts(t, "dropped", w, h.Lives(), 0, 50, 0, rising(50))
	if again != 4 {
		t.Errorf("in block %d", again-1)
	}
	well(t, w.Drop())
	w = begun(t, h)
	well(t, table.Drop(w, ref, 50), w.Commit())
	untouched(t, "later", d, was)
	live(t, "dropped", h, 5)
	w = begun(t, h)
	stateOf(t, w).tells(t, "gone", w, ref, 50)
	if ref := stateOf(t, w).inserts(t, "again", w, h.Lives(), 0, 50, 0, rising(50)); ref != 1 {
		t.Errorf("in block %d", ref-1)
	}
}

// kept is a table that a long row of calls works on: cells of a size, and what they should be.
type kept struct {
	cell int
	list []string
}

// P15.2 to P15.8: long rows of calls on several tables of one heap, in works that are committed and dropped, behind losses of power too, against lists.
func TestLongRows(t *testing.T) {
	r := rand.New(rand.NewPCG(15, 4))
	codes := map[string]int{}
	for range 12 {
		d := device(t, 9+r.IntN(14))
		h := heap(t, d, 7)
		tables := map[uint32]kept{}
		for range 40 {
			w := begun(t, h)
			now := maps.Clone(tables)
			for range r.IntN(10) {
				codes[anyCall(t, r, h, w, now)]++
			}
			switch r.IntN(4) {
			case 0:
				well(t, w.Drop())
			case 1:
				well(t, d.Crash(), d.Wake())
				h = heap(t, d, h.Lives()...)
			default:
				if e := w.Commit(); e != api.OK {
					t.Fatalf("Commit = %d", e)
				}
				tables = now
			}
			allBlocks(t, h, tables)
		}
	}
	for _, name := range []string{"inserted", "no room", "deleted", "put", "dropped", "no table"} {
		if codes[name] < 40 {
			t.Errorf("too few of a kind: %v", codes)
		}
	}
}

// anyCall makes a call by chance, holds it against the words, and keeps what tables there are; it is what came of it.
func anyCall(t *testing.T, r *rand.Rand, h *blocks.Heap, w *blocks.Work, tables map[uint32]kept) string {
	t.Helper()
	s := stateOf(t, w)
	for ref, k := range tables {
		s.whole(t, "a long row", w, ref, k.cell, k.list)
	}
	refs := slices.Sorted(maps.Keys(tables))
	ref, k := uint32(0), kept{cell: []int{1, 5, 30, 50, 62, 62, 62}[r.IntN(7)]}
	if len(refs) > 0 && (r.IntN(4) > 0 || len(refs) > 4) {
		ref = refs[r.IntN(len(refs))]
		k = tables[ref]
	}
	n := len(k.list)
	switch c := r.IntN(12); {
	case c < 6:
		i := r.IntN(n + 1)
		l := cellsOf(k.cell, 1+r.IntN(2)*r.IntN(2*fill(k.cell)), r.IntN(30))
		got := s.inserts(t, "a long row", w, h.Lives(), ref, k.cell, i, l...)
		if got == 0 {
			// What stays taken is no table's: it is given back, for the next calls.
			for _, b := range w.Taken() {
				if !slices.Contains(s.taken, b) {
					well(t, w.Give(b))
				}
			}
			return "no room"
		}
		delete(tables, ref)
		tables[got] = kept{k.cell, slices.Insert(slices.Clone(k.list), i, l...)}
		return "inserted"
	case c < 9 && n > 0:
		i := r.IntN(n)
		m := 1 + r.IntN(min(n-i, 2*fill(k.cell)))
		got := s.deletes(t, "a long row", w, h.Lives(), ref, k.cell, i, m)
		delete(tables, ref)
		if got != 0 {
			tables[got] = kept{k.cell, slices.Delete(slices.Clone(k.list), i, i+m)}
		}
		return "deleted"
	case c == 9 && n > 0:
		i := r.IntN(n)
		b := cellsOf(k.cell, 1, r.IntN(99))[0]
		s.puts(t, "a long row", w, ref, k.cell, i, b)
		tables[ref] = kept{k.cell, slices.Replace(slices.Clone(k.list), i, i+1, b)}
		return "put"
	case c == 10 && n > 0:
		s.drops(t, "a long row", w, ref, k.cell)
		delete(tables, ref)
		return "dropped"
	default:
		ref := uint32(1 + r.IntN(60))
		if s.tells(t, "a long row", w, ref, 49) {
			t.Fatal("a table of a size that none has")
		}
		s.drops(t, "a long row", w, ref, 49)
		return "no table"
	}
}

// allBlocks holds that the live blocks are those of the tables, each just once, and the one that was live at first.
func allBlocks(t *testing.T, h *blocks.Heap, tables map[uint32]kept) {
	t.Helper()
	w := begun(t, h)
	l := []int{7}
	for ref, k := range tables {
		row, e := table.Blocks(w, ref, k.cell)
		if e != api.OK {
			t.Fatalf("Blocks(%d) = %v, %d", ref, row, e)
		}
		l = append(l, row...)
		if got, e := table.Cells(w, ref, k.cell); !slices.Equal(textsOf(got), k.list) || e != api.OK {
			t.Fatalf("Cells(%d): others than the list's, %d", ref, e)
		}
	}
	slices.Sort(l)
	live(t, "a long row", h, l...)
	well(t, w.Drop())
}
