package blob

import (
	"bytes"
	"iter"

	"vellum/api"
	"vellum/bits"
	"vellum/blocks"
)

// Where a blob block has the reference of the next one, its length, and its data.
const (
	nextAt   = 0
	lengthAt = 4
	dataAt   = api.BlockSize - api.BlobRoom
)

// reference is that of a row of blocks: of the first one; 0, if there is none.
func reference(row []int) uint32 {
	if len(row) == 0 {
		return 0
	}
	return uint32(row[0]) + 1
}

// laid is the bytes of a blob block.
func laid(next uint32, data []byte) []byte {
	head := bits.Put(bits.Put(bits.Put(nil, next), uint16(len(data))), uint16(0))
	block := make([]byte, api.BlockSize)
	copy(block, head)
	copy(block[dataAt:], data)
	return block
}

// dataOf is the data of a blob block; false, if a block is none.
func dataOf(block []byte) ([]byte, bool) {
	// What is not in use has no bytes: then both numbers are 0, and no block has that length.
	next, _ := bits.Take[uint32](block, nextAt)
	length, _ := bits.Take[uint16](block, lengthAt)
	n := int(length)
	if n < 1 || n > api.BlobRoom || next != 0 && n < api.BlobRoom {
		return nil, false
	}
	data := block[dataAt : dataAt+n]
	// Whether the bytes that must be 0 are so is seen by laying the block anew.
	return data, bytes.Equal(block, laid(next, data))
}

// chain tells the blocks from a reference on, each with its bytes; one that is not in use has none, and is the last. Where references lead back it goes on for ever: who goes through it leaves it.
func chain(w *blocks.Work, ref uint32) iter.Seq2[int, []byte] {
	return func(yield func(int, []byte) bool) {
		for next := ref; next != 0; {
			b := int(next - 1)
			block, _ := w.Read(b)
			if !yield(b, block) {
				return
			}
			next, _ = bits.Take[uint32](block, nextAt)
		}
	}
}

// read is the numbers of a blob's blocks, and its text.
func read(w *blocks.Work, ref uint32) ([]int, []byte, api.Errno) {
	if _, code := w.Root(); code != api.OK {
		return nil, nil, code
	}
	var row []int
	var text []byte
	for b, block := range chain(w, ref) {
		data, ok := dataOf(block)
		// A block that comes twice needs no look of its own: it comes again and again, until there is one byte too many.
		if !ok || len(text)+len(data) > api.MaxBlob {
			return nil, nil, api.ErrBlob
		}
		row = append(row, b)
		text = append(text, data...)
	}
	return row, text, api.OK
}
