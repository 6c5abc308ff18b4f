package table

import (
	"bytes"

	"vellum/api"
	"vellum/bits"
	"vellum/blocks"
)

// Where a table's block has the reference of the next one, how many cells, their size, and the cells.
const (
	nextAt  = 0
	countAt = 4
	cellsAt = api.BlockSize - api.BlobRoom
)

// room is how many bytes of cells a block takes: no more than whole ones.
func room(cell int) int { return Fill(cell) * cell }

// laid is the bytes of a table's block.
func laid(next uint32, cells []byte, cell int) []byte {
	head := bits.Put(bits.Put(bits.Put(nil, next), uint16(len(cells)/cell)), uint16(cell))
	block := make([]byte, api.BlockSize)
	copy(block, head)
	copy(block[cellsAt:], cells)
	return block
}

// cellsOf is the cells of a table's block; false, if a block is none.
func cellsOf(block []byte, cell int) ([]byte, bool) {
	// What is not in use has no bytes: then both numbers are 0, and no block has so many cells.
	next, _ := bits.Take[uint32](block, nextAt)
	count, _ := bits.Take[uint16](block, countAt)
	n := int(count)
	if n < 1 || n > Fill(cell) {
		return nil, false
	}
	end := cellsAt + n*cell
	// Cut so that cells which come behind them never grow into the block that was read.
	cells := block[cellsAt:end:end]
	// Whether it says that size, and has bytes 0 at its end, is seen by laying the block anew.
	return cells, bytes.Equal(block, laid(next, cells, cell))
}

// read is a table as parts, one for each block.
func read(w *blocks.Work, ref uint32, cell int) ([]part, api.Errno) {
	if _, code := w.Root(); code != api.OK {
		return nil, code
	}
	if Fill(cell) == 0 {
		return nil, api.ErrArg
	}
	var parts []part
	for next := ref; next != 0; {
		b := int(next - 1)
		block, _ := w.Read(b)
		cells, right := cellsOf(block, cell)
		// A block that comes twice comes again and again, until there are more than the heap has.
		if !right || len(parts) == w.Blocks() {
			return nil, api.ErrTable
		}
		p := part{cells: cells, block: b, was: block}
		if k := len(parts); k > 0 && fit(parts[k-1], p, room(cell)) {
			return nil, api.ErrTable
		}
		parts = append(parts, p)
		next, _ = bits.Take[uint32](block, nextAt)
	}
	return parts, api.OK
}
