package chunks

import "vellum/api"

// cellSize is how many bytes a table keeps of a chunk.
const cellSize = 16

// Where a cell has the chunk's reference, and what is known of its text; the tail goes to the cell's end.
const (
	refAt   = 0
	bytesAt = 4
	charsAt = 6
	linesAt = 8
	headAt  = 10
	tailAt  = 13
)

// cell is what a table keeps of a chunk.
type cell [cellSize]byte

// cellOf is the cell of a chunk in a block, of whose text this is known.
func cellOf(block int, t api.Tally) cell {
	var c cell
	lay(c[refAt:bytesAt], block+1)
	lay(c[bytesAt:charsAt], t.Bytes)
	lay(c[charsAt:linesAt], t.Chars)
	lay(c[linesAt:headAt], t.Lines)
	copy(c[headAt:tailAt], t.Head)
	copy(c[tailAt:], t.Tail)
	return c
}

// lay writes a number over b, the lowest byte first.
func lay(b []byte, v int) {
	for i := range b {
		b[i] = byte(v >> (8 * i))
	}
}

// block is the block that it names; one that no heap has, if it names none.
func (c cell) block() int {
	ref := uint32(0)
	for i, x := range c[refAt:bytesAt] {
		ref |= uint32(x) << (8 * i)
	}
	return int(ref) - 1
}
