package table_test

import (
	"bytes"
	"encoding/binary"
	"fmt"
	"math"
	"slices"
	"strings"
	"testing"

	"vellum/api"
	"vellum/blocks"
	"vellum/pmem"
	"vellum/table"
	"vellum/txn"
	"vellum/ulog"
)

// The tests' heaps begin behind a log that has room for some thirty blocks.
const (
	heapAt  = 8320
	logSize = heapAt - 128
)

// well does calls that must go well.
func well(t *testing.T, codes ...api.Errno) {
	t.Helper()
	for i, e := range codes {
		if e != api.OK {
			t.Fatalf("call %d = %d", i, e)
		}
	}
}

// second is the error of a call that answers something else, too.
func second[T any](_ T, e api.Errno) api.Errno { return e }

// rising is n bytes of which none is 0, and none is like the next one, nor like the one that is 248 or 256 bytes on.
func rising(n int) string {
	b := make([]byte, n)
	for i := range b {
		b[i] = byte(i%251 + 1)
	}
	return string(b)
}

// zeros is n bytes 0.
func zeros(n int) string { return string(make([]byte, n)) }

// over is a text with other bytes from a place on.
func over(s string, at int, b string) string { return s[:at] + b + s[at+len(b):] }

// odd is numbers at the ends of ints.
func odd() []int {
	return []int{math.MinInt, math.MinInt + 1, math.MinInt + 62, -63, -62, -2, -1, math.MaxInt / 62, math.MaxInt/62 + 1, math.MaxInt/2 + 1, math.MaxInt - 248, math.MaxInt - 1, math.MaxInt}
}

// noSizes is what no cell has as its size.
func noSizes() []int {
	return append(odd(), 0, 63, 64, 124, 247, 248, 249, 256, 1<<16+1, 1<<16+62, 1<<32+62)
}

// far is references to blocks that no heap has.
func far() []uint32 {
	return []uint32{16385, 1 << 16, 1<<16 + 1, 1 << 24, 1<<31 - 1, 1 << 31, 1<<31 + 1, 1<<32 - 2, 1<<32 - 1}
}

// device is one on which n blocks lie, all bytes of theirs rising: nothing that stands in free blocks is 0, or a table's block.
func device(t *testing.T, n int) *pmem.Device {
	t.Helper()
	d, e := pmem.From([]byte(zeros(heapAt) + rising(256*n)))
	well(t, e)
	return d
}

// heap is a new one of a device, of a new pool and a new log, with live blocks.
func heap(t *testing.T, d *pmem.Device, live ...int) *blocks.Heap {
	t.Helper()
	l, e := ulog.Open(d, 128, logSize)
	well(t, e)
	p, e := txn.New(d, l)
	well(t, e)
	h, e := blocks.New(p, heapAt, (d.Size()-heapAt)/256)
	well(t, e, h.Load(live))
	return h
}

func begun(t *testing.T, h *blocks.Heap) *blocks.Work {
	t.Helper()
	w, e := h.Begin()
	if w == nil || e != api.OK {
		t.Fatalf("Begin = %v, %d", w, e)
	}
	return w
}

// work is one of a new heap of n blocks.
func work(t *testing.T, n int, live ...int) *blocks.Work {
	t.Helper()
	return begun(t, heap(t, device(t, n), live...))
}

// upTo is the numbers from 0 to n - 1.
func upTo(n int) []int {
	var l []int
	for b := range n {
		l = append(l, b)
	}
	return l
}

// cellsOf is n cells of a size, each another one than those near it; those of another kind are others.
func cellsOf(cell, n, kind int) []string {
	var l []string
	for i := range n {
		// The first byte tells cells of one byte apart, too; none is 0.
		l = append(l, (string([]byte{byte((37*kind+i)%251 + 1)}) + rising(cell + i%17)[i%17:])[:cell])
	}
	return l
}

// listOf is cells as a call takes them.
func listOf(l []string) [][]byte {
	var out [][]byte
	for _, c := range l {
		out = append(out, []byte(c))
	}
	return out
}

// textsOf is cells as texts.
func textsOf(l [][]byte) []string {
	var out []string
	for _, c := range l {
		out = append(out, string(c))
	}
	return out
}

// blockOf is the bytes of a block: a reference, a number of cells, their size, what stands behind, and bytes 0.
func blockOf(next uint32, count, cell int, cells string) string {
	b := binary.LittleEndian.AppendUint32(nil, next)
	b = binary.LittleEndian.AppendUint16(b, uint16(count))
	b = binary.LittleEndian.AppendUint16(b, uint16(cell))
	b = append(b, cells...)
	return string(append(b, make([]byte, 256-len(b))...))
}

// of is a right block with so many cells.
func of(next uint32, count, cell int) string {
	return blockOf(next, count, cell, rising(count*cell))
}

// put writes the bytes of blocks, from the block 0 on.
func put(t *testing.T, w *blocks.Work, l ...string) {
	t.Helper()
	for b, data := range l {
		well(t, w.Write(b, []byte(data)))
	}
}

// row is a part of a plan: cells, and a block, or -1.
type row struct {
	block int
	cells []string
}

// laid is the bytes of the blocks of parts, each of which has one.
func laid(plan []row, cell int) []string {
	var l []string
	for k, r := range plan {
		next := uint32(0)
		if k+1 < len(plan) {
			next = uint32(plan[k+1].block + 1)
		}
		l = append(l, blockOf(next, len(r.cells), cell, strings.Join(r.cells, "")))
	}
	return l
}

// state is all that a work tells.
type state struct {
	taken, given []int
	root         uint64
	blocks       []string // of those that are in use; the others have no bytes
}

func stateOf(t *testing.T, w *blocks.Work) state {
	t.Helper()
	v, e := w.Root()
	well(t, e)
	s := state{taken: w.Taken(), given: w.Given(), root: v, blocks: make([]string, w.Blocks())}
	for b := range s.blocks {
		data, e := w.Read(b)
		if e != api.OK && e != api.ErrBlock {
			t.Fatalf("Read(%d) = %d", b, e)
		}
		s.blocks[b] = string(data)
	}
	return s
}

// is holds all that a work tells against what it should.
func (s state) is(t *testing.T, name string, w *blocks.Work) {
	t.Helper()
	now := stateOf(t, w)
	if !slices.Equal(now.taken, s.taken) || !slices.Equal(now.given, s.given) || now.root != s.root {
		t.Fatalf("%s: taken %v, given %v, the root %d; not %v, %v, %d", name, now.taken, now.given, now.root, s.taken, s.given, s.root)
	}
	for b, data := range s.blocks {
		if now.blocks[b] != data {
			t.Fatalf("%s: block %d is % x, not % x", name, b, now.blocks[b], data)
		}
	}
}

// fill is how many cells of a size go into 248 bytes, counted one by one.
func fill(cell int) int {
	n := 0
	for (n+1)*cell <= 248 {
		n++
	}
	return n
}

// table is what the chapter's words say of a reference: its blocks with their cells; false, if it is no table's with cells of that size.
func (s state) table(ref uint32, cell int) ([]row, bool) {
	var plan []row
	seen := make([]bool, len(s.blocks))
	for ref != 0 {
		b := int64(ref) - 1
		if b >= int64(len(s.blocks)) || s.blocks[b] == "" || seen[b] {
			return nil, false
		}
		seen[b] = true
		data := s.blocks[b]
		n := int(data[4]) + 256*int(data[5])
		if n == 0 || n > fill(cell) || int(data[6])+256*int(data[7]) != cell || strings.Trim(data[8+n*cell:], "\x00") != "" {
			return nil, false
		}
		r := row{block: int(b)}
		for at := range n {
			r.cells = append(r.cells, data[8+at*cell:8+at*cell+cell])
		}
		plan = append(plan, r)
		ref = binary.LittleEndian.Uint32([]byte(data))
	}
	for k := 1; k < len(plan); k++ {
		if len(plan[k-1].cells)+len(plan[k].cells) <= fill(cell) {
			return nil, false
		}
	}
	return plan, true
}

// listed is the cells of parts, in order.
func listed(plan []row) []string {
	var l []string
	for _, r := range plan {
		l = append(l, r.cells...)
	}
	return l
}

// blocksOf is the blocks of parts, in order.
func blocksOf(plan []row) []int {
	var l []int
	for _, r := range plan {
		l = append(l, r.block)
	}
	return l
}

// tells holds what Len, Cells, Blocks and Get answer of a reference against the chapter's words.
func (s state) tells(t *testing.T, name string, w *blocks.Work, ref uint32, cell int) bool {
	t.Helper()
	plan, is := s.table(ref, cell)
	want := api.OK
	if !is {
		want = api.ErrTable
	}
	l := listed(plan)
	if n, e := table.Len(w, ref, cell); n != len(l) || e != want {
		t.Fatalf("%s: Len(%d, %d) = %d, %d; not %d, %d", name, ref, cell, n, e, len(l), want)
	}
	if got, e := table.Cells(w, ref, cell); !slices.Equal(textsOf(got), l) || e != want {
		t.Fatalf("%s: Cells(%d, %d) = %.9q, %d; not %.9q, %d", name, ref, cell, got, e, l, want)
	}
	if got, e := table.Blocks(w, ref, cell); !slices.Equal(got, blocksOf(plan)) || e != want {
		t.Fatalf("%s: Blocks(%d, %d) = %v, %d; not %v, %d", name, ref, cell, got, e, blocksOf(plan), want)
	}
	for _, i := range []int{-1, 0, len(l) / 2, len(l) - 1, len(l), math.MaxInt} {
		cellIs, code := "", want
		switch {
		case !is:
		case i < 0 || i >= len(l):
			code = api.ErrRange
		default:
			cellIs = l[i]
		}
		if got, e := table.Get(w, ref, cell, i); string(got) != cellIs || e != code {
			t.Fatalf("%s: Get(%d, %d, %d) = %q, %d; not %q, %d", name, ref, cell, i, got, e, cellIs, code)
		}
	}
	return is
}

// free is the blocks that a work can take, rising; live are those of its heap.
func (s state) free(live []int) []int {
	var l []int
	for b := range s.blocks {
		if !slices.Contains(live, b) && !slices.Contains(s.taken, b) {
			l = append(l, b)
		}
	}
	return l
}

// without is what a work tells when blocks that were in use are given: those that it took are free again, those that were live are given.
func (s state) without(l []int) state {
	next := state{root: s.root, blocks: slices.Clone(s.blocks), given: slices.Clone(s.given)}
	for _, b := range l {
		next.blocks[b] = ""
		if !slices.Contains(s.taken, b) {
			next.given = append(next.given, b)
		}
	}
	slices.Sort(next.given)
	for _, b := range s.taken {
		if !slices.Contains(l, b) {
			next.taken = append(next.taken, b)
		}
	}
	return next
}

// drops drops a reference, and holds what is told behind it against the chapter's words.
func (s state) drops(t *testing.T, name string, w *blocks.Work, ref uint32, cell int) {
	t.Helper()
	plan, is := s.table(ref, cell)
	e := table.Drop(w, ref, cell)
	if is != (e == api.OK) || !is && e != api.ErrTable {
		t.Fatalf("%s: Drop(%d, %d) = %d", name, ref, cell, e)
	}
	s.without(blocksOf(plan)).is(t, fmt.Sprint(name, ", Drop ", ref), w)
}

// puts puts a cell, and holds the answer and what is told behind it against the chapter's words.
func (s state) puts(t *testing.T, name string, w *blocks.Work, ref uint32, cell, i int, b string) {
	t.Helper()
	name = fmt.Sprint(name, ", Put ", i)
	plan, is := s.table(ref, cell)
	want := api.OK
	next := s.without(nil)
	next.taken = s.taken
	switch {
	case !is:
		want = api.ErrTable
	case i < 0 || i >= len(listed(plan)):
		want = api.ErrRange
	case len(b) != cell:
		want = api.ErrArg
	default:
		at := i
		for k, r := range plan {
			if at >= 0 && at < len(r.cells) {
				r.cells[at] = b
				next.blocks[r.block] = laid(plan, cell)[k]
			}
			at -= len(r.cells)
		}
	}
	if e := table.Put(w, ref, cell, i, []byte(b)); e != want {
		t.Fatalf("%s of %d bytes = %d, not %d", name, len(b), e, want)
	}
	next.is(t, name, w)
	if want == api.OK {
		next.tells(t, name, w, ref, cell)
	}
}

// settled is a plan that was settled, told as the words do.
func settled(plan []row, fill int) []row {
	for {
		at := slices.IndexFunc(upTo(max(len(plan)-1, 0)), func(k int) bool {
			return len(plan[k].cells)+len(plan[k+1].cells) <= fill
		})
		if at < 0 {
			return plan
		}
		one := row{plan[at].block, slices.Concat(plan[at].cells, plan[at+1].cells)}
		if one.block < 0 {
			one.block = plan[at+1].block
		}
		plan = slices.Concat(plan[:at], []row{one}, plan[at+2:])
	}
}

// inserted is the plan of a table into which cells come, settled.
func inserted(plan []row, cell, i int, l []string) []row {
	if len(plan) == 0 {
		plan = []row{{block: -1}}
	}
	var out []row
	done := false
	for k, r := range plan {
		if !done && (i < len(r.cells) || k+1 == len(plan)) {
			r.cells = slices.Insert(slices.Clone(r.cells), i, l...)
			done = true
		}
		i -= len(r.cells)
		for piece := range slices.Chunk(r.cells, fill(cell)) {
			out = append(out, row{r.block, piece})
			r.block = -1
		}
	}
	return settled(out, fill(cell))
}

// deleted is the plan of a table out of which cells go, settled.
func deleted(plan []row, cell, i, n int) []row {
	var out []row
	at := 0
	for _, r := range plan {
		var left []string
		for _, c := range r.cells {
			if at < i || at >= i+n {
				left = append(left, c)
			}
			at++
		}
		if len(left) > 0 {
			out = append(out, row{r.block, left})
		}
	}
	return settled(out, fill(cell))
}

// carried is what a work tells when a plan was carried out, which blocks it wrote, in which it did not lie, and what is answered; live are the heap's. With ErrSpace the blocks that were taken have what they had, which Read alone tells: they have no bytes here.
func (s state) carried(plan []row, was []int, cell int, live []int) (next state, written []int, ref uint32, code api.Errno) {
	next = s.without(nil)
	next.taken = slices.Clone(s.taken)
	free := s.free(live)
	plan = slices.Clone(plan)
	for k := range plan {
		if plan[k].block >= 0 {
			continue
		}
		if len(free) == 0 {
			slices.Sort(next.taken)
			return next, nil, 0, api.ErrSpace
		}
		plan[k].block = free[0]
		next.taken = append(next.taken, free[0])
		free = free[1:]
	}
	slices.Sort(next.taken)
	var gone []int
	for _, b := range was {
		if !slices.Contains(blocksOf(plan), b) {
			gone = append(gone, b)
		}
	}
	next = next.without(gone)
	for k, data := range laid(plan, cell) {
		b := plan[k].block
		if next.blocks[b] != data || !slices.Contains(was, b) {
			written = append(written, b)
		}
		next.blocks[b] = data
	}
	if len(plan) > 0 {
		ref = uint32(plan[0].block + 1)
	}
	return next, written, ref, api.OK
}

// inserts inserts cells, and holds the answer and what is told behind it against the chapter's words; live are the heap's blocks that are. It answers the reference that the table has then.
func (s state) inserts(t *testing.T, name string, w *blocks.Work, live []int, ref uint32, cell, i int, l ...string) uint32 {
	t.Helper()
	name = fmt.Sprint(name, ", Insert ", len(l), " at ", i)
	plan, is := s.table(ref, cell)
	next, want, code := s, uint32(0), api.OK
	switch {
	case !is:
		code = api.ErrTable
	case slices.ContainsFunc(l, func(c string) bool { return len(c) != cell }):
		code = api.ErrArg
	case i < 0 || i > len(listed(plan)):
		code = api.ErrRange
	case len(l) == 0:
		want = ref
	default:
		next, _, want, code = s.carried(inserted(plan, cell, i, l), blocksOf(plan), cell, live)
	}
	got, e := table.Insert(w, ref, cell, i, listOf(l)...)
	if got != want || e != code {
		t.Fatalf("%s = %d, %d; not %d, %d", name, got, e, want, code)
	}
	if code == api.ErrSpace {
		next.leftTaken(t, s, w)
	}
	next.is(t, name, w)
	if code == api.OK {
		next.whole(t, name, w, got, cell, slices.Insert(listed(plan), i, l...))
	}
	return got
}

// leftTaken puts in what Read tells of blocks that were taken and not written.
func (s state) leftTaken(t *testing.T, was state, w *blocks.Work) {
	t.Helper()
	for _, b := range s.taken {
		if slices.Contains(was.taken, b) {
			continue
		}
		data, e := w.Read(b)
		well(t, e)
		s.blocks[b] = string(data)
	}
}

// deletes deletes cells, and holds the answer and what is told behind it against the chapter's words. It answers the reference that the table has then.
func (s state) deletes(t *testing.T, name string, w *blocks.Work, live []int, ref uint32, cell, i, n int) uint32 {
	t.Helper()
	name = fmt.Sprint(name, ", Delete ", n, " at ", i)
	plan, is := s.table(ref, cell)
	next, want, code := s, uint32(0), api.OK
	switch {
	case !is:
		code = api.ErrTable
	case i < 0 || n < 0 || float64(i)+float64(n) > float64(len(listed(plan))):
		code = api.ErrRange
	case n == 0:
		want = ref
	default:
		next, _, want, code = s.carried(deleted(plan, cell, i, n), blocksOf(plan), cell, live)
	}
	got, e := table.Delete(w, ref, cell, i, n)
	if got != want || e != code {
		t.Fatalf("%s = %d, %d; not %d, %d", name, got, e, want, code)
	}
	next.is(t, name, w)
	if code == api.OK {
		next.whole(t, name, w, got, cell, slices.Delete(listed(plan), i, i+n))
	}
	return got
}

// whole holds that a reference is a table's, with the cells of a list, in no more blocks than may be.
func (s state) whole(t *testing.T, name string, w *blocks.Work, ref uint32, cell int, l []string) {
	t.Helper()
	if !s.tells(t, name, w, ref, cell) {
		t.Fatalf("%s: no table", name)
	}
	plan, _ := s.table(ref, cell)
	if !slices.Equal(listed(plan), l) {
		t.Fatalf("%s: other cells than a list's", name)
	}
	if k := len(l); len(plan) > 2*k/(fill(cell)+1)+min(k, 1) {
		t.Fatalf("%s: %d cells in %d blocks", name, k, len(plan))
	}
}

// untouched holds that nothing was done to a device.
func untouched(t *testing.T, name string, d, was *pmem.Device) {
	t.Helper()
	if d.Ops() != was.Ops() || !bytes.Equal(d.Image(), was.Image()) {
		t.Fatalf("%s: %d operations", name, d.Ops()-was.Ops())
	}
}
