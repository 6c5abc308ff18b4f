package body_test

import (
	"bytes"
	"encoding/binary"
	"math"
	"math/rand/v2"
	"slices"
	"strings"
	"testing"

	"vellum/api"
	"vellum/blocks"
	"vellum/body"
	"vellum/gap"
	"vellum/pmem"
	"vellum/table"
	"vellum/tally"
	"vellum/txn"
	"vellum/ulog"
)

// The tests' heaps begin behind a log that has room for some thirty blocks.
const (
	heapAt  = 8320
	logSize = heapAt - 128
)

// well does calls that must go well.
func well(t *testing.T, codes ...api.Errno) {
	t.Helper()
	for i, e := range codes {
		if e != api.OK {
			t.Fatalf("call %d = %d", i, e)
		}
	}
}

// second is the error of a call that answers something else, too.
func second[T any](_ T, e api.Errno) api.Errno { return e }

// odd is numbers at the ends of ints, and others that no short text has as a place.
func odd() []int {
	return []int{math.MinInt, math.MinInt + 1, -1 << 32, -1 << 16, -253, -2, -1, 1 << 20, 1<<20 + 1, 1 << 32, 1<<32 + 1, math.MaxInt/2 + 1, math.MaxInt - 252, math.MaxInt - 1, math.MaxInt}
}

// far is references to blocks that no heap has.
func far() []uint32 {
	return []uint32{16385, 1 << 16, 1<<16 + 1, 1 << 24, 1<<31 - 1, 1 << 31, 1<<31 + 1, 1<<32 - 2, 1<<32 - 1}
}

// prose is n bytes in which characters of each width, wrong bytes and line ends of each kind stand close to one another; those of another kind are others.
func prose(n, kind int) string {
	words := []string{"ab", "\u00e9", "\r\n", "\u20ac", "c\n", "\U0001F600", "\xe2\x82", "\u0085", "\r", "\u2028", "xyz\xff", "\u2029", "\xf0\x9f", "d\xc3", "e", "\ufffd"}
	var b strings.Builder
	for i := kind; b.Len() < n; i += 1 + i%3 {
		b.WriteString(words[i%len(words)])
	}
	return b.String()[:n]
}

// rising is n bytes of which none is 0: what stands in blocks that are free.
func rising(n int) []byte {
	b := make([]byte, n)
	for i := range b {
		b[i] = byte(i%251 + 1)
	}
	return b
}

// device is one on which n blocks lie, in which anything stands.
func device(t *testing.T, n int) *pmem.Device {
	t.Helper()
	size := (heapAt + 256*n + 63) / 64 * 64
	d, e := pmem.From(slices.Concat(make([]byte, heapAt), rising(size-heapAt)))
	well(t, e)
	return d
}

// heap is a new one of a device, of a new pool and a new log, with live blocks.
func heap(t *testing.T, d *pmem.Device, live ...int) *blocks.Heap {
	t.Helper()
	l, e := ulog.Open(d, 128, logSize)
	well(t, e)
	p, e := txn.New(d, l)
	well(t, e)
	h, e := blocks.New(p, heapAt, (d.Size()-heapAt)/256)
	well(t, e, h.Load(live))
	return h
}

func begun(t *testing.T, h *blocks.Heap) *blocks.Work {
	t.Helper()
	w, e := h.Begin()
	if w == nil || e != api.OK {
		t.Fatalf("Begin = %v, %d", w, e)
	}
	return w
}

// work is one of a new heap of n blocks.
func work(t *testing.T, n int, live ...int) *blocks.Work {
	t.Helper()
	return begun(t, heap(t, device(t, n), live...))
}

// opened is the body of a text in a work.
func opened(t *testing.T, w *blocks.Work, ref uint32) *body.Body {
	t.Helper()
	b, e := body.Open(w, ref)
	if b == nil || e != api.OK {
		t.Fatalf("Open(%d) = %v, %d", ref, b, e)
	}
	return b
}

// made is the body of a text that was put into a work.
func made(t *testing.T, w *blocks.Work, s string) *body.Body {
	t.Helper()
	b := opened(t, w, 0)
	for at := 0; at < len(s); at += 4096 {
		well(t, b.Apply(api.Change{At: at, New: s[at:min(at+4096, len(s))]}))
	}
	return b
}

// scene is a text in chunks of some sizes, in a heap with some blocks that are free.
type scene struct {
	text  string
	sizes []int
	free  int
}

// laid is a chunk's text as it lies in a block, the gap anywhere, and the cell that a table has of it.
func laid(t *testing.T, b int, s string, at int) (block, cell []byte) {
	t.Helper()
	g, e := gap.Make(s)
	well(t, e, g.Move(at))
	known := tally.Of(s)
	cell = binary.LittleEndian.AppendUint32(nil, uint32(b+1))
	for _, n := range []int{known.Bytes, known.Chars, known.Lines} {
		cell = binary.LittleEndian.AppendUint16(cell, uint16(n))
	}
	cell = append(cell, (known.Head + "\x00\x00\x00")[:3]...)
	return g.Block(), append(cell, (known.Tail + "\x00\x00\x00")[:3]...)
}

// lay lays the scene on a new device: its chunks in any order, every third block taken, the others live.
func (s scene) lay(t *testing.T) (*pmem.Device, *blocks.Work, uint32) {
	t.Helper()
	if sum(s.sizes) != len(s.text) {
		t.Fatalf("sizes %v of %d bytes", s.sizes, len(s.text))
	}
	n := len(s.sizes)
	// A table's block has at most 15 cells.
	all := n + (n+14)/15 + s.free
	order := rand.New(rand.NewPCG(uint64(len(s.text)), uint64(n))).Perm(n)
	var live []int
	for i, b := range order {
		if i%3 > 0 {
			live = append(live, b)
		}
	}
	d := device(t, all)
	w := begun(t, heap(t, d, live...))
	for range n - len(live) {
		well(t, second(w.Take()))
	}
	var cells [][]byte
	text := s.text
	for i, size := range s.sizes {
		block, cell := laid(t, order[i], text[:size], size*(i+1)/3%(size+1))
		well(t, w.Write(order[i], block))
		cells = append(cells, cell)
		text = text[size:]
	}
	ref, e := table.Insert(w, 0, 16, 0, cells...)
	well(t, e)
	return d, w, ref
}

// body is the scene's text as a body.
func (s scene) body(t *testing.T) *body.Body {
	t.Helper()
	_, w, ref := s.lay(t)
	return opened(t, w, ref)
}

// sum is numbers together.
func sum(l []int) int {
	n := 0
	for _, c := range l {
		n += c
	}
	return n
}

// scenes is a scene for each row of at most n sizes out of some that chunks can have, with prose.
func scenes(n int, choice []int, free int) []scene {
	all := [][]int{nil}
	for from := 0; from < len(all); from++ {
		l := all[from]
		if len(l) == n {
			continue
		}
		for _, c := range choice {
			if len(l) == 0 || l[len(l)-1]+c > 252 {
				all = append(all, append(slices.Clone(l), c))
			}
		}
	}
	var out []scene
	for i, l := range all {
		out = append(out, scene{text: prose(sum(l), i), sizes: l, free: free})
	}
	return out
}

// dozens is a text of some dozens of chunks.
func dozens(free int) scene {
	s := scene{free: free}
	for k := range 40 {
		s.sizes = append(s.sizes, []int{252, 1, 252, 130, 123, 252, 2, 251}[k%8])
	}
	s.text = prose(sum(s.sizes), 5)
	return s
}

// seams is the byte places at which chunks begin or end.
func (s scene) seams() []int {
	l := []int{0}
	for i, n := range s.sizes {
		l = append(l, l[i]+n)
	}
	return l
}

// state is all that a work tells.
type state struct {
	taken, given []int
	root         uint64
	blocks       []string // of those that are in use; the others have no bytes
}

func stateOf(t *testing.T, w *blocks.Work) state {
	t.Helper()
	v, e := w.Root()
	well(t, e)
	s := state{taken: w.Taken(), given: w.Given(), root: v, blocks: make([]string, w.Blocks())}
	for b := range s.blocks {
		data, e := w.Read(b)
		if e != api.OK && e != api.ErrBlock {
			t.Fatalf("Read(%d) = %d", b, e)
		}
		s.blocks[b] = string(data)
	}
	return s
}

// is holds all that a work tells against what it should.
func (s state) is(t *testing.T, name string, w *blocks.Work) {
	t.Helper()
	now := stateOf(t, w)
	if !slices.Equal(now.taken, s.taken) || !slices.Equal(now.given, s.given) || now.root != s.root {
		t.Fatalf("%s: taken %v, given %v, the root %d; not %v, %v, %d", name, now.taken, now.given, now.root, s.taken, s.given, s.root)
	}
	for b, data := range s.blocks {
		if now.blocks[b] != data {
			t.Fatalf("%s: block %d is % x, not % x", name, b, now.blocks[b], data)
		}
	}
}

// untouched holds that nothing was done to a device.
func untouched(t *testing.T, name string, d, was *pmem.Device) {
	t.Helper()
	if d.Ops() != was.Ops() || !bytes.Equal(d.Image(), was.Image()) {
		t.Fatalf("%s: %d operations", name, d.Ops()-was.Ops())
	}
}
