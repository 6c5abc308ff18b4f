package blob_test

import (
	"bytes"
	"encoding/binary"
	"fmt"
	"math"
	"slices"
	"strings"
	"testing"

	"vellum/api"
	"vellum/blob"
	"vellum/blocks"
	"vellum/pmem"
	"vellum/txn"
	"vellum/ulog"
)

// The tests' heaps begin behind a log that has room for some thirty blocks.
const (
	heapAt  = 8320
	logSize = heapAt - 128
)

// well does calls that must go well.
func well(t *testing.T, codes ...api.Errno) {
	t.Helper()
	for i, e := range codes {
		if e != api.OK {
			t.Fatalf("call %d = %d", i, e)
		}
	}
}

// second is the error of a call that answers something else, too.
func second[T any](_ T, e api.Errno) api.Errno { return e }

// rising is n bytes of which none is 0, and none is like the next one, nor like the one that is 248 or 256 bytes on.
func rising(n int) string {
	b := make([]byte, n)
	for i := range b {
		b[i] = byte(i%251 + 1)
	}
	return string(b)
}

// zeros is n bytes 0.
func zeros(n int) string { return string(make([]byte, n)) }

// over is a text with other bytes from a place on.
func over(s string, at int, b string) string { return s[:at] + b + s[at+len(b):] }

// odd is numbers at the ends of ints.
func odd() []int {
	return []int{math.MinInt, math.MinInt + 1, math.MinInt + 248, math.MaxInt - 248, math.MaxInt - 247, math.MaxInt - 1, math.MaxInt}
}

// far is references to blocks that no heap has.
func far() []uint32 {
	return []uint32{16385, 1 << 16, 1<<16 + 1, 1 << 24, 1<<31 - 1, 1 << 31, 1<<31 + 1, 1<<32 - 2, 1<<32 - 1}
}

// edges is lengths of texts around which something changes.
func edges() []int { return []int{0, 1, 2, 247, 248, 249, 495, 496, 497, 744, 745} }

// device is one on which n blocks lie, all bytes of theirs rising: nothing that stands in free blocks is 0, or a blob block.
func device(t *testing.T, n int) *pmem.Device {
	t.Helper()
	d, e := pmem.From([]byte(zeros(heapAt) + rising(256*n)))
	well(t, e)
	return d
}

// heap is a new one of a device, of a new pool and a new log, with live blocks.
func heap(t *testing.T, d *pmem.Device, live ...int) *blocks.Heap {
	t.Helper()
	l, e := ulog.Open(d, 128, logSize)
	well(t, e)
	p, e := txn.New(d, l)
	well(t, e)
	h, e := blocks.New(p, heapAt, (d.Size()-heapAt)/256)
	well(t, e, h.Load(live))
	return h
}

func begun(t *testing.T, h *blocks.Heap) *blocks.Work {
	t.Helper()
	w, e := h.Begin()
	if w == nil || e != api.OK {
		t.Fatalf("Begin = %v, %d", w, e)
	}
	return w
}

// work is one of a new heap of n blocks.
func work(t *testing.T, n int, live ...int) *blocks.Work {
	t.Helper()
	return begun(t, heap(t, device(t, n), live...))
}

// upTo is the numbers from 0 to n - 1.
func upTo(n int) []int {
	var l []int
	for b := range n {
		l = append(l, b)
	}
	return l
}

// blockOf is the bytes of a block: a reference, a length, data, and bytes 0.
func blockOf(next uint32, length int, data string) string {
	b := binary.LittleEndian.AppendUint32(nil, next)
	b = binary.LittleEndian.AppendUint16(b, uint16(length))
	b = append(append(b, 0, 0), data...)
	return string(append(b, make([]byte, 256-len(b))...))
}

// full is a block of 248 bytes that count.
func full(next uint32) string { return blockOf(next, 248, rising(248)) }

// put writes the bytes of blocks, from the block 0 on.
func put(t *testing.T, w *blocks.Work, l ...string) {
	t.Helper()
	for b, data := range l {
		well(t, w.Write(b, []byte(data)))
	}
}

// state is all that a work tells.
type state struct {
	taken, given []int
	root         uint64
	blocks       []string // of those that are in use; the others have no bytes
}

func stateOf(t *testing.T, w *blocks.Work) state {
	t.Helper()
	v, e := w.Root()
	well(t, e)
	s := state{taken: w.Taken(), given: w.Given(), root: v, blocks: make([]string, w.Blocks())}
	for b := range s.blocks {
		data, e := w.Read(b)
		if e != api.OK && e != api.ErrBlock {
			t.Fatalf("Read(%d) = %d", b, e)
		}
		s.blocks[b] = string(data)
	}
	return s
}

// is holds all that a work tells against what it should.
func (s state) is(t *testing.T, name string, w *blocks.Work) {
	t.Helper()
	now := stateOf(t, w)
	if !slices.Equal(now.taken, s.taken) || !slices.Equal(now.given, s.given) || now.root != s.root {
		t.Fatalf("%s: taken %v, given %v, the root %d; not %v, %v, %d", name, now.taken, now.given, now.root, s.taken, s.given, s.root)
	}
	for b, data := range s.blocks {
		if now.blocks[b] != data {
			t.Fatalf("%s: block %d is % x, not % x", name, b, now.blocks[b], data)
		}
	}
}

// blob is what the chapter's words say of a reference: the blocks from it on, behind others that were gone through, and their text; false, if it is none.
func (s state) blob(ref uint32, behind ...int) ([]int, string, bool) {
	if ref == 0 {
		return behind, "", true
	}
	b := int64(ref) - 1
	if b >= int64(len(s.blocks)) || s.blocks[b] == "" || slices.Contains(behind, int(b)) {
		return nil, "", false
	}
	data := s.blocks[b]
	next := binary.LittleEndian.Uint32([]byte(data))
	n := int(data[4]) + 256*int(data[5])
	if n == 0 || n > 248 || next != 0 && n != 248 || data[6] != 0 || data[7] != 0 || strings.Trim(data[8+n:], "\x00") != "" {
		return nil, "", false
	}
	row, rest, is := s.blob(next, append(behind, int(b))...)
	if !is || n+len(rest) > 65536 {
		return nil, "", false
	}
	return row, data[8:8+n] + rest, true
}

// tells holds what Get and Blocks answer of a reference against the chapter's words; they change nothing.
func (s state) tells(t *testing.T, name string, w *blocks.Work, ref uint32) bool {
	t.Helper()
	row, text, is := s.blob(ref)
	want := api.OK
	if !is {
		want = api.ErrBlob
	}
	if got, e := blob.Get(w, ref); got != text || e != want {
		t.Fatalf("%s: Get(%d) = %d bytes %.9q, %d; not %d bytes %.9q, %d", name, ref, len(got), got, e, len(text), text, want)
	}
	if got, e := blob.Blocks(w, ref); !slices.Equal(got, row) || e != want {
		t.Fatalf("%s: Blocks(%d) = %v, %d; not %v, %d", name, ref, got, e, row, want)
	}
	return is
}

// drops drops a reference, and holds what is told behind it against the chapter's words.
func (s state) drops(t *testing.T, name string, w *blocks.Work, ref uint32) {
	t.Helper()
	row, _, is := s.blob(ref)
	e := blob.Drop(w, ref)
	if is != (e == api.OK) || !is && e != api.ErrBlob {
		t.Fatalf("%s: Drop(%d) = %d", name, ref, e)
	}
	s.without(row).is(t, fmt.Sprint(name, ", Drop ", ref), w)
}

// without is what a work tells when blocks that were in use are given: those that it took are free again, those that were live are given.
func (s state) without(row []int) state {
	next := state{root: s.root, blocks: slices.Clone(s.blocks), given: slices.Clone(s.given)}
	for _, b := range row {
		next.blocks[b] = ""
		if !slices.Contains(s.taken, b) {
			next.given = append(next.given, b)
		}
	}
	slices.Sort(next.given)
	for _, b := range s.taken {
		if !slices.Contains(row, b) {
			next.taken = append(next.taken, b)
		}
	}
	return next
}

// free is the blocks that a work can take, rising; live are those of its heap.
func (s state) free(live []int) []int {
	var l []int
	for b := range s.blocks {
		if !slices.Contains(live, b) && !slices.Contains(s.taken, b) {
			l = append(l, b)
		}
	}
	return l
}

// puts puts a text, and holds the answer and what is told behind it against the chapter's words; live are the heap's blocks that are. It answers the reference.
func (s state) puts(t *testing.T, name string, w *blocks.Work, live []int, text string) uint32 {
	t.Helper()
	var parts []string
	for part := range slices.Chunk([]byte(text), 248) {
		parts = append(parts, string(part))
	}
	free := s.free(live)
	next := state{given: s.given, root: s.root, blocks: slices.Clone(s.blocks)}
	want, code := uint32(0), api.OK
	row := free[:min(len(free), len(parts))]
	switch {
	case len(text) > 65536:
		row, code = nil, api.ErrLong
	case len(parts) > len(free):
		code = api.ErrSpace
	case len(row) > 0:
		want = uint32(row[0] + 1)
	}
	next.taken = slices.Sorted(slices.Values(append(slices.Clone(s.taken), row...)))
	ref, e := blob.Put(w, text)
	if ref != want || e != code {
		t.Fatalf("%s: Put of %d bytes = %d, %d; not %d, %d", name, len(text), ref, e, want, code)
	}
	for i, b := range row {
		if code != api.OK {
			// Taken, but not written: what they hold is left to Read.
			data, e := w.Read(b)
			well(t, e)
			next.blocks[b] = string(data)
			continue
		}
		to := uint32(0)
		if i+1 < len(row) {
			to = uint32(row[i+1] + 1)
		}
		next.blocks[b] = blockOf(to, len(parts[i]), parts[i])
	}
	next.is(t, fmt.Sprint(name, ", Put of ", len(text), " bytes"), w)
	if code == api.OK {
		got, e := blob.Get(w, ref)
		if got != text || e != api.OK {
			t.Fatalf("%s: Get = %d bytes, %d; not %d", name, len(got), e, len(text))
		}
		if l, e := blob.Blocks(w, ref); !slices.Equal(l, row) || e != api.OK || len(l) != blob.Need(len(text)) {
			t.Fatalf("%s: Blocks = %v, %d; not %v", name, l, e, row)
		}
	}
	return ref
}

// untouched holds that nothing was done to a device.
func untouched(t *testing.T, name string, d, was *pmem.Device) {
	t.Helper()
	if d.Ops() != was.Ops() || !bytes.Equal(d.Image(), was.Image()) {
		t.Fatalf("%s: %d operations", name, d.Ops()-was.Ops())
	}
}
