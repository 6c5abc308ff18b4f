package blob_test

import (
	"fmt"
	"math/rand/v2"
	"slices"
	"testing"

	"vellum/api"
	"vellum/blob"
	"vellum/blocks"
)

// P14.3: each single bit of a blob's blocks turned, in a blob of three blocks, of which the last has one byte, some, or all: whether that is a blob, and which. Of live blocks and of taken ones.
func TestEachBit(t *testing.T) {
	// Each bit of the data may be turned; and the first one's reference from 2 to 3 or 0, and of the last one's length as many bits as make it greater, but not above 248.
	for n, others := range map[int]int{1: 2 + 7, 100: 2 + 5, 248: 2} {
		for _, live := range []int{0, 3} {
			w := work(t, 5, upTo(live)...)
			for range 3 - live {
				well(t, second(w.Take()))
			}
			right := []string{full(2), full(3), blockOf(0, n, rising(n))}
			put(t, w, right...)
			blobs := 0
			for b, data := range right {
				for bit := range 8 * 256 {
					turned := []byte(data)
					turned[bit/8] ^= 1 << (bit % 8)
					well(t, w.Write(b, turned))
					if stateOf(t, w).tells(t, fmt.Sprint("bit ", bit, " of block ", b), w, 1) {
						blobs++
					}
				}
				well(t, w.Write(b, []byte(data)))
			}
			if want := 8*(496+n) + others; blobs != want {
				t.Errorf("%d bytes in the last one: %d are blobs, not %d", n, blobs, want)
			}
		}
	}
}

// forms is bytes of a block: right ones, and wrong ones of each kind, with a reference.
func forms(next uint32) []string {
	var l []string
	for _, n := range []int{0, 1, 2, 247, 248, 249, 250, 255, 256, 257, 256 + 247, 256 + 248, 1 << 15, 1<<16 - 1} {
		data := rising(min(n, 248))
		right := blockOf(next, n, data)
		l = append(l, right, over(right, 6, "\x01"), over(right, 7, "\x80"), over(right, 8, zeros(248)), blockOf(next, n, rising(248)))
		if n < 248 {
			l = append(l, over(right, 8+n, "\x01"), over(right, 255, "\xff"))
		}
	}
	return l
}

// P14.3, P14.4: wrong and right blocks of each kind as the first, the middle and the last one of a chain: lengths of 0, of 249, below 248 with a next one, bytes that must be 0 and are not; whether it is a blob, and which; what is none is not dropped.
func TestEachForm(t *testing.T) {
	var all []string
	for _, next := range append(far(), 0, 2, 3, 4, 5) {
		all = append(all, forms(next)...)
	}
	for place := range 3 {
		blobs := 0
		for i, data := range all {
			name := fmt.Sprint("form ", i, " in block ", place)
			w := work(t, 4, 0, 1, 2)
			l := []string{full(2), full(3), blockOf(0, 9, rising(9))}
			l[place] = data
			put(t, w, l...)
			s := stateOf(t, w)
			if s.tells(t, name, w, 1) {
				blobs++
			}
			s.drops(t, name, w, 1)
		}
		if blobs < 3 {
			t.Errorf("block %d: only %d are blobs", place, blobs)
		}
	}
}

// P14.3: each form with each in two blocks.
func TestEachTwoForms(t *testing.T) {
	w := work(t, 3, 0, 1)
	var all []string
	for _, next := range []uint32{0, 1, 2, 3} {
		all = append(all, forms(next)...)
	}
	for i, first := range all {
		for j, other := range all {
			s := state{blocks: []string{first, other, ""}}
			put(t, w, first, other)
			for ref := range uint32(4) {
				s.tells(t, fmt.Sprint("forms ", i, " and ", j), w, ref)
			}
		}
	}
}

// P14.3, P14.5: all ways in which four blocks can lead to each other, to themselves and to a block that is not in use: those that lead back are no blobs.
func TestEachShape(t *testing.T) {
	w := work(t, 5, 0, 1, 2, 3)
	for shape := range 6 * 6 * 6 * 6 {
		s := state{blocks: make([]string, 5)}
		rest := shape
		for b := range 4 {
			next := uint32(rest % 6)
			rest /= 6
			s.blocks[b] = full(next)
		}
		put(t, w, s.blocks[:4]...)
		for ref := range uint32(7) {
			s.tells(t, fmt.Sprint("shape ", shape), w, ref)
		}
	}
}

// mixed is a work of n blocks, each of which is free, live, taken or given, as the digits of a number say, to the base of four.
func mixed(t *testing.T, n, kinds int) *blocks.Work {
	t.Helper()
	var live, given, free []int
	for b := range n {
		switch kinds >> (2 * b) & 3 {
		case 0:
			free = append(free, b)
		case 1:
			live = append(live, b)
		case 2:
			given, live = append(given, b), append(live, b)
		}
	}
	w := work(t, n, live...)
	for second(w.Take()) == api.OK {
	}
	// Written while they are in use: so a right block stands in each that is not any more.
	for b := range n {
		well(t, w.Write(b, []byte(full(0))))
	}
	for _, b := range slices.Concat(given, free) {
		well(t, w.Give(b))
	}
	return w
}

// P14.3, P14.4: blobs all of whose blocks are live, taken, given or free, in all ways: those in use are told, and given by Drop; where one is not it is no blob, and nothing is done.
func TestEachUse(t *testing.T) {
	orders := [][]int{{0, 1, 2}, {2, 1, 0}, {1, 2, 0}, {0, 2}, {1}}
	for kinds := range 4 * 4 * 4 {
		for _, order := range orders {
			w := mixed(t, 3, kinds)
			for i, b := range order {
				next := uint32(0)
				if i+1 < len(order) {
					next = uint32(order[i+1] + 1)
				}
				// ErrBlock of those that are not in use.
				w.Write(b, []byte(full(next)))
			}
			s := stateOf(t, w)
			name := fmt.Sprint("kinds ", kinds, ", order ", order)
			for ref := range uint32(5) {
				s.tells(t, name, w, ref)
			}
			ref := uint32(order[0] + 1)
			s.drops(t, name, w, ref)
			// Not in use any more, or never: no blob either way.
			s = stateOf(t, w)
			s.tells(t, name+", dropped", w, ref)
			s.drops(t, name+", dropped", w, ref)
		}
	}
}

// P14.3, P14.4: references to blocks that there are not.
func TestFarReferences(t *testing.T) {
	w := work(t, 3, 0, 1, 2)
	put(t, w, full(0), full(0), full(0))
	s := stateOf(t, w)
	for _, ref := range append(far(), 4, 5, 256, 257, 258, 16384) {
		if s.tells(t, "far", w, ref) {
			t.Errorf("a blob at %d", ref)
		}
		s.drops(t, "far", w, ref)
		put(t, w, full(ref))
		led := stateOf(t, w)
		if led.tells(t, "led far", w, 1) {
			t.Errorf("a blob that leads to %d", ref)
		}
		led.drops(t, "led far", w, 1)
		put(t, w, full(0))
	}
	s.is(t, "behind far ones", w)
}

// P14.3: a reference into the midst of a blob is one of what stands from there on; two that end in the same blocks are blobs both, until one of them is dropped.
func TestBlobsWithOneEnd(t *testing.T) {
	w := work(t, 6, upTo(6)...)
	put(t, w, full(2), full(3), blockOf(0, 5, "hello"), full(3), full(1), full(6))
	s := stateOf(t, w)
	for ref, want := range map[uint32][]int{1: {0, 1, 2}, 2: {1, 2}, 3: {2}, 4: {3, 2}, 5: {4, 0, 1, 2}} {
		if l, e := blob.Blocks(w, ref); !slices.Equal(l, want) || e != api.OK || !s.tells(t, "one end", w, ref) {
			t.Errorf("Blocks(%d) = %v, %d", ref, l, e)
		}
	}
	s.drops(t, "one end", w, 4)
	s = stateOf(t, w)
	for ref := range uint32(8) {
		if s.tells(t, "one end, dropped", w, ref) && ref != 0 {
			t.Errorf("a blob at %d", ref)
		}
		s.drops(t, "one end, dropped", w, ref)
	}
}

// led writes a chain over blocks in an order: all of them full, but the last one, which has a length and a reference.
func led(t *testing.T, w *blocks.Work, order []int, length int, last uint32) uint32 {
	t.Helper()
	for i, b := range order {
		data := blockOf(last, length, rising(length))
		if i+1 < len(order) {
			data = full(uint32(order[i+1] + 1))
		}
		well(t, w.Write(b, []byte(data)))
	}
	return uint32(order[0] + 1)
}

// P14.3, P14.4, P14.5: chains that hold just 65536 bytes, fewer, and more; what stands behind the bytes that may be: nothing, more, a block that is not in use, a way back.
func TestLongChains(t *testing.T) {
	r := rand.New(rand.NewPCG(14, 3))
	const n = 300
	w := work(t, n+1, upTo(n)...)
	for _, count := range []int{1, 2, 263, 264, 265, 266, 267, n} {
		for _, length := range []int{1, 63, 64, 65, 247, 248} {
			order := r.Perm(n)[:count]
			ref := led(t, w, order, length, 0)
			is := 248*(count-1)+length <= 65536
			name := fmt.Sprint(count, " blocks, the last with ", length)
			if stateOf(t, w).tells(t, name, w, ref) != is {
				t.Errorf("%s: is not %v", name, is)
			}
			// Of the whole just as much as MaxBlob counts, not of what a reference into its midst names.
			if count > 266 && length == 64 {
				from := order[count-265]
				if text, e := blob.Get(w, uint32(from+1)); len(text) != 65536 || e != api.OK {
					t.Errorf("%s: Get of its end = %d bytes, %d", name, len(text), e)
				}
			}
			for _, last := range []uint32{ref, uint32(order[count/2] + 1), uint32(order[count-1] + 1), n + 1, n + 2, 1<<32 - 1} {
				ref := led(t, w, order, length, last)
				if stateOf(t, w).tells(t, name+", a next one", w, ref) {
					t.Errorf("%s, leading to %d: a blob", name, last)
				}
			}
		}
	}
}

// P14.4: Drop of chains around 65536 bytes: all blocks are given, or none.
func TestDropOfLongChains(t *testing.T) {
	r := rand.New(rand.NewPCG(14, 4))
	for _, count := range []int{264, 265, 266} {
		for _, length := range []int{1, 64, 65, 248} {
			w := work(t, 270, upTo(100)...)
			for range 168 {
				well(t, second(w.Take()))
			}
			ref := led(t, w, r.Perm(268)[:count], length, 0)
			stateOf(t, w).drops(t, fmt.Sprint(count, " blocks, the last with ", length), w, ref)
		}
	}
}

// P14.3, P14.5: blocks of any bytes, and blocks that are nearly right, whatever leads where: every call ends, and tells what the words say.
func TestAnyBlocks(t *testing.T) {
	r := rand.New(rand.NewPCG(14, 5))
	blobs, none := 0, 0
	for range 4000 {
		n := 1 + r.IntN(8)
		w := mixed(t, n, int(r.Uint32()))
		for b := range n {
			// ErrBlock of those that are not in use.
			w.Write(b, []byte(anyBlock(r, n)))
		}
		s := stateOf(t, w)
		for ref := range uint32(n + 2) {
			if s.tells(t, "any blocks", w, ref) {
				blobs++
			} else {
				none++
			}
		}
		for range 3 {
			stateOf(t, w).drops(t, "any blocks", w, uint32(r.IntN(n+2)))
		}
	}
	if blobs < 6000 || none < 6000 {
		t.Errorf("%d blobs, %d that are none", blobs, none)
	}
}

// anyBlock is bytes of a block, most often right ones or nearly so.
func anyBlock(r *rand.Rand, n int) string {
	switch r.IntN(8) {
	case 0:
		b := make([]byte, 256)
		for i := range b {
			b[i] = byte(r.Uint32())
		}
		return string(b)
	case 1, 2:
		length := r.IntN(252)
		return blockOf(0, length, rising(min(length, 248)))
	case 3:
		return over(full(uint32(r.IntN(n+2))), r.IntN(8), string([]byte{byte(r.IntN(4))}))
	default:
		return full(uint32(r.IntN(n + 2)))
	}
}
