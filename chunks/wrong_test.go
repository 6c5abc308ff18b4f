package chunks_test

import (
	"encoding/binary"
	"fmt"
	"math/rand/v2"
	"slices"
	"strings"
	"testing"

	"vellum/api"
	"vellum/blocks"
	"vellum/chunks"
	"vellum/table"
)

// three is a text of three chunks, in three blocks and one more.
func three() scene {
	return scene{text: strings.Repeat("a", 100) + prose(130, 3) + prose(252, 4) + strings.Repeat("b", 18), sizes: []int{200, 252, 48}, free: 4}
}

// turned is bytes with one bit turned.
func turned(b []byte, bit int) []byte {
	l := slices.Clone(b)
	l[bit/8] ^= 1 << (bit % 8)
	return l
}

// tellsAll holds Tally and Read of all, or what is refused, against the chapter's words.
func tellsAll(t *testing.T, name string, w *blocks.Work, ref uint32) bool {
	t.Helper()
	plan, _, is := read(t, w, ref)
	if !is {
		refuses(t, name, api.ErrChunks, func() *blocks.Work { return w }, ref)
		return false
	}
	tellsText(t, name, w, ref, whole(plan), []int{len(whole(plan)) / 2})
	return true
}

// P17.1 to P17.6: each single bit of a cell turned: that is no text.
func TestEachBitOfACell(t *testing.T) {
	_, _, w, ref := three().lay(t)
	cells, e := table.Cells(w, ref, 16)
	well(t, e)
	for i, c := range cells {
		for bit := range 128 {
			well(t, table.Put(w, ref, 16, i, turned(c, bit)))
			if tellsAll(t, fmt.Sprint("bit ", bit, " of cell ", i), w, ref) {
				t.Errorf("bit %d of cell %d turned, and a text", bit, i)
			}
		}
		well(t, table.Put(w, ref, 16, i, c))
	}
	tellsAll(t, "all as it was", w, ref)
}

// P17.1 to P17.6: each single bit of a chunk's block, and of the table's, turned: whether that is a text, and which.
func TestEachBitOfABlock(t *testing.T) {
	_, _, w, ref := three().lay(t)
	l, e := chunks.Blocks(w, ref)
	well(t, e)
	for i, b := range l {
		texts := 0
		data, e := w.Read(b)
		well(t, e)
		for bit := range 8 * 256 {
			well(t, w.Write(b, turned(data, bit)))
			if tellsAll(t, fmt.Sprint("bit ", bit, " of block ", i), w, ref) {
				texts++
			}
		}
		well(t, w.Write(b, data))
		if i == 3 && texts > 0 {
			t.Errorf("a bit of the table turned, and %d texts", texts)
		}
		// In the midst of a chunk letters may be others.
		if i == 0 && texts < 400 {
			t.Errorf("a bit of a chunk turned, and only %d texts", texts)
		}
	}
}

// over is a cell with other bytes from a place on.
func over(c []byte, at int, b string) []byte { return slices.Concat(c[:at], []byte(b), c[at+len(b):]) }

// P17.1 to P17.6: cells of which any one number is another: of 2 bytes each, of the reference some.
func TestOtherNumbers(t *testing.T) {
	_, _, w, ref := three().lay(t)
	cells, e := table.Cells(w, ref, 16)
	well(t, e)
	for i, c := range cells {
		for _, at := range []int{4, 6, 8} {
			was := binary.LittleEndian.Uint16(c[at:])
			for _, n := range []uint16{0, 1, was - 1, was + 1, was + 256, 252, 253, 1 << 15, 1<<16 - 1} {
				if n == was {
					continue
				}
				well(t, table.Put(w, ref, 16, i, over(c, at, string([]byte{byte(n), byte(n >> 8)}))))
				if tellsAll(t, fmt.Sprint("cell ", i, " with ", n, " at ", at), w, ref) {
					t.Errorf("cell %d with %d at %d: a text", i, n, at)
				}
			}
		}
		for _, r := range append(far(), 0, 1, 2, 3, 4, 5, 6, 7, 8, 9, 10, 256, 257) {
			now := over(c, 0, string(binary.LittleEndian.AppendUint32(nil, r)))
			if slices.Equal(now, c) {
				continue
			}
			well(t, table.Put(w, ref, 16, i, now))
			if tellsAll(t, fmt.Sprint("cell ", i, " of ", r), w, ref) {
				t.Errorf("cell %d of reference %d: a text", i, r)
			}
		}
		for at := 10; at < 16; at++ {
			well(t, table.Put(w, ref, 16, i, over(c, at, string([]byte{c[at] + 1}))))
			if tellsAll(t, fmt.Sprint("cell ", i, " with another byte at ", at), w, ref) {
				t.Errorf("cell %d with another byte at %d: a text", i, at)
			}
		}
		well(t, table.Put(w, ref, 16, i, c))
	}
}

// P17.1: chunks of one byte and of two: behind a Head and a Tail that are shorter than three stand bytes 0, in a right cell.
func TestShortHeads(t *testing.T) {
	for _, s := range []string{"a", "ab", "\n", "\r\n", "\xff", "\x00", "\x00\x00"} {
		w := work(t, 4)
		ref, e := chunks.Insert(w, 0, 0, s)
		well(t, e)
		c, e := table.Get(w, ref, 16, 0)
		well(t, e)
		if want := (row{block: 0, text: s}).cell(); !slices.Equal(c, want) || !tells(t, "short", w, ref) {
			t.Errorf("%x: the cell % x, not % x", s, c, want)
		}
		for at := 10; at < 16; at++ {
			well(t, table.Put(w, ref, 16, 0, over(c, at, string([]byte{c[at] + 7}))))
			if tellsAll(t, "short, another one", w, ref) {
				t.Errorf("%x with another byte at %d: a text", s, at)
			}
		}
	}
}

// P17.1 to P17.6: two neighbours that have at most 252 bytes together are no text, with one more they are; wherever they stand.
func TestNeighbours(t *testing.T) {
	for _, c := range [][2]int{{126, 126}, {1, 251}, {251, 1}, {2, 250}, {1, 1}, {100, 100}, {127, 126}, {126, 127}, {1, 252}, {252, 1}, {2, 251}} {
		for _, around := range [][2]int{{0, 0}, {252, 0}, {0, 252}, {252, 252}} {
			s := scene{}
			for _, n := range []int{around[0], c[0], c[1], around[1]} {
				if n > 0 {
					s.sizes = append(s.sizes, n)
				}
			}
			s.text = prose(sum(s.sizes), 5)
			_, _, w, ref := s.lay(t)
			if is := tellsAll(t, fmt.Sprint("sizes ", s.sizes), w, ref); is != (c[0]+c[1] > 252) {
				t.Errorf("sizes %v: %v", s.sizes, is)
			}
		}
	}
}

// P17.1 to P17.6: chunks without bytes, alone and beside others.
func TestEmptyChunks(t *testing.T) {
	for _, sizes := range [][]int{{0}, {0, 252}, {252, 0}, {252, 0, 252}, {0, 0}} {
		_, _, w, ref := scene{text: prose(sum(sizes), 0), sizes: sizes}.lay(t)
		if tellsAll(t, fmt.Sprint("sizes ", sizes), w, ref) {
			t.Errorf("sizes %v: a text", sizes)
		}
	}
}

// P17.1 to P17.6: a block that stands twice among the chunks, next to itself and apart.
func TestBlocksTwice(t *testing.T) {
	for _, order := range [][]int{{0, 0}, {0, 1, 0}, {0, 1, 1}, {1, 1, 0}, {0, 1, 2, 1}} {
		w := work(t, 6, 0, 1, 2, 3)
		var cells [][]byte
		for _, b := range order {
			r := row{b, prose(200, b), 9}
			well(t, w.Write(b, r.data()))
			cells = append(cells, r.cell())
		}
		ref := layTable(t, w, []int{3}, []int{len(order)}, cells)
		if tellsAll(t, fmt.Sprint("blocks ", order), w, ref) {
			t.Errorf("blocks %v: a text", order)
		}
	}
}

// P17.1 to P17.6: a table's block that is the gap block of a chunk of that table, with a right cell: it stands there twice.
func TestTableThatIsItsChunk(t *testing.T) {
	for b := range 9 {
		w := work(t, 10, upTo(10)...)
		// Of one cell, with 252 bytes, characters, and no line end: all of these numbers stand in the text that they are told of.
		c := binary.LittleEndian.AppendUint32(nil, uint32(b+1))
		c = append(c, 252, 0, 252, 0, 0, 0, 1, 0, 16, 0, 0, 0)
		ref := layTable(t, w, []int{b}, []int{1}, [][]byte{c})
		data, e := w.Read(b)
		well(t, e)
		r, is := rowOf(b, data)
		if !is || !slices.Equal(r.cell(), c) {
			t.Fatalf("block %d: no gap block of that cell", b)
		}
		if tellsAll(t, "a table that is its chunk", w, ref) {
			t.Errorf("block %d: a text", b)
		}
		// As a chunk of another table it is one.
		ref = layTable(t, w, []int{9}, []int{1}, [][]byte{c})
		if !tellsAll(t, "another table", w, ref) {
			t.Errorf("block %d: no text", b)
		}
	}
}

// P17.1 to P17.6: references that are no text's: to a chunk, to what is free or was given, to what is not; tables of cells of another size, or with cells that are none.
func TestReferences(t *testing.T) {
	s := three()
	d, _, w, ref := s.lay(t)
	was := d.Copy()
	l, e := chunks.Blocks(w, ref)
	well(t, e)
	before := stateOf(t, w)
	for r := range uint32(30) {
		if is := tellsAll(t, "references", w, r); is != (r == 0 || r == ref) {
			t.Errorf("reference %d: %v", r, is)
		}
	}
	for _, r := range far() {
		if tellsAll(t, "far", w, r) {
			t.Errorf("reference %d: a text", r)
		}
	}
	before.is(t, "references", w)
	untouched(t, "references", d, was)
	for cell := 1; cell <= 62; cell++ {
		w := work(t, 6)
		ref, e := table.Insert(w, 0, cell, 0, make([]byte, cell))
		well(t, e)
		if tellsAll(t, "a table of cells of 0", w, ref) {
			t.Errorf("cells of %d: a text", cell)
		}
	}
	// Each of the blocks given.
	for i, b := range l {
		_, _, w, ref := s.lay(t)
		well(t, w.Give(b))
		if tellsAll(t, fmt.Sprint("given ", i), w, ref) {
			t.Errorf("block %d given: a text", i)
		}
	}
}

// P17.1 to P17.6: texts all of whose blocks are live, taken, given or free, in all ways: where all are in use they are told, and dropped; where one is not it is no text, and nothing is done.
func TestEachUse(t *testing.T) {
	for kinds := range 4 * 4 * 4 {
		var live, gone []int
		in := true
		for b := range 3 {
			switch kinds >> (2 * b) & 3 {
			case 0:
				live = append(live, b)
			case 1:
				// It is taken.
			case 2:
				live, gone, in = append(live, b), append(gone, b), false
			case 3:
				gone, in = append(gone, b), false
			}
		}
		lay := func() *blocks.Work {
			w := work(t, 4, live...)
			for second(w.Take()) == api.OK {
			}
			var cells [][]byte
			for b := range 2 {
				r := row{b, prose(150, b), 5}
				well(t, w.Write(b, r.data()))
				cells = append(cells, r.cell())
			}
			layTable(t, w, []int{2}, []int{2}, cells)
			for _, b := range gone {
				well(t, w.Give(b))
			}
			return w
		}
		p := twins{lay(), lay()}
		name := fmt.Sprint("kinds ", kinds)
		if is := tellsAll(t, name, p.w, 3); is != in {
			t.Errorf("%s: %v", name, is)
		}
		p.inserts(t, name, 3, 200, "x")
		p.deletes(t, name, 3, 0, 1)
		p.drops(t, name, 3)
		if tellsAll(t, name+", dropped", p.w, 3) {
			t.Errorf("%s: dropped, and a text", name)
		}
		p.drops(t, name+", again", 3)
	}
}

// P17.1 to P17.8: texts of which one to three bytes of any blocks are others, or whose blocks are others altogether: every call ends, and tells what the words say.
func TestAnyBlocks(t *testing.T) {
	r := rand.New(rand.NewPCG(17, 2))
	texts, none := 0, 0
	all := scenes(3, []int{1, 126, 127, 251, 252}, 3)
	for range 3000 {
		s := all[1+r.IntN(len(all)-1)]
		p, ref := s.twins(t)
		l, e := chunks.Blocks(p.w, ref)
		well(t, e)
		for range 1 + r.IntN(3) {
			b := l[r.IntN(len(l))]
			data, e := p.w.Read(b)
			well(t, e)
			switch r.IntN(8) {
			case 0:
				for i := range data {
					data[i] = byte(r.Uint32())
				}
			case 1:
				data = row{b, prose(1+r.IntN(252), r.IntN(9)), 0}.data()
			case 2:
				data[r.IntN(8)] = byte(r.IntN(256))
			case 3:
				data[r.IntN(256)] = byte(r.IntN(256))
			default:
				// Another letter, which is often a text again.
				if i := r.IntN(256); 'a' <= data[i] && data[i] <= 'z' {
					data[i] = 'q'
				}
			}
			well(t, p.w.Write(b, data), p.hand.Write(b, data))
		}
		if tellsAll(t, "any blocks", p.w, ref) {
			texts++
		} else {
			none++
		}
		at := r.IntN(len(s.text) + 1)
		if next, e := p.inserts(t, "any blocks", ref, at, prose(1+r.IntN(300), 1)); e == api.OK {
			p.deletes(t, "any blocks", next, at, len(s.text))
		}
		p.drops(t, "any blocks", ref)
	}
	if texts < 500 || none < 500 {
		t.Errorf("%d texts, %d that are none", texts, none)
	}
}
