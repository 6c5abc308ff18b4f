package chunks

import (
	"iter"
	"strings"

	"vellum/api"
	"vellum/blocks"
	"vellum/gap"
	"vellum/table"
	"vellum/tally"
)

// chunk is a part of a text or of a plan: a gap, and the block in which it lies.
type chunk struct {
	*gap.Gap
	block int
	was   []byte    // what stands in the block; nil of a part that has none yet
	known api.Tally // of its text
}

// bare says whether it has no block.
func (c chunk) bare() bool { return c.was == nil }

// cell is what the table is to keep of it.
func (c chunk) cell() cell { return cellOf(c.block, c.known) }

// chunkOf is the chunk that a cell names; false, if it is none, or if the cell tells of another one.
func chunkOf(w *blocks.Work, l cell) (chunk, bool) {
	b := l.block()
	// What is not in use has no bytes, and so no gap.
	block, _ := w.Read(b)
	g, code := gap.Open(block)
	if code != api.OK || g.Len() == 0 {
		return chunk{}, false
	}
	c := chunk{Gap: g, block: b, was: block, known: tally.Of(g.Text())}
	return c, c.cell() == l
}

// text is a text in chunks, as it was read.
type text struct {
	chunks []chunk
	blocks []int // the table's
}

// read is the text that a reference tells.
func read(w *blocks.Work, ref uint32) (text, api.Errno) {
	if _, code := w.Root(); code != api.OK {
		return text{}, code
	}
	cells, code := table.Cells(w, ref, cellSize)
	if code != api.OK {
		return text{}, api.ErrChunks
	}
	var t text
	t.blocks, _ = table.Blocks(w, ref, cellSize)
	seen := make(map[int]struct{}, len(cells)+len(t.blocks))
	for _, b := range t.blocks {
		seen[b] = struct{}{}
	}
	for k, l := range cells {
		c, right := chunkOf(w, cell(l))
		_, twice := seen[c.block]
		if !right || twice || k > 0 && fit(t.chunks[k-1], c) {
			return text{}, api.ErrChunks
		}
		seen[c.block] = struct{}{}
		t.chunks = append(t.chunks, c)
	}
	if t.size() > api.MaxText {
		return text{}, api.ErrChunks
	}
	return t, api.OK
}

// told tells the chunks, each with the byte place at which it begins.
func (t text) told() iter.Seq2[int, chunk] {
	return func(yield func(int, chunk) bool) {
		at := 0
		for _, c := range t.chunks {
			// Asked ahead of the yield: who is told a chunk may change it.
			end := at + c.Len()
			if !yield(at, c) {
				return
			}
			at = end
		}
	}
}

// size is how many bytes the text has.
func (t text) size() int {
	n := 0
	for _, c := range t.chunks {
		n += c.Len()
	}
	return n
}

// has says whether bytes may be asked for; or a place, as two that are one.
func (t text) has(from, to int) bool { return 0 <= from && from <= to && to <= t.size() }

// tally is what is known of the whole, from what is known of the chunks.
func (t text) tally() (api.Tally, api.Errno) {
	var l []api.Tally
	for _, c := range t.chunks {
		l = append(l, c.known)
	}
	return tally.Sum(l...)
}

// slice is bytes that the text has.
func (t text) slice(from, to int) string {
	var b strings.Builder
	b.Grow(to - from)
chunks:
	for at, c := range t.told() {
		switch n := c.Len(); {
		case at >= to:
			break chunks
		case at+n > from:
			s, _ := c.Slice(max(from-at, 0), min(to-at, n))
			b.WriteString(s)
		}
	}
	return b.String()
}
