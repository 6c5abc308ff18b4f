package blob_test

import (
	"fmt"
	"maps"
	"math/rand/v2"
	"slices"
	"testing"

	"vellum/api"
	"vellum/blob"
	"vellum/blocks"
)

// live holds which blocks of a heap are.
func live(t *testing.T, name string, h *blocks.Heap, want ...int) {
	t.Helper()
	if l := h.Lives(); !slices.Equal(l, want) {
		t.Fatalf("%s: live are %v, not %v", name, l, want)
	}
}

// P14.2 to P14.5: a blob that was committed is got, told and dropped in later works, also when the power was gone between them; a work that is dropped leaves it.
func TestLaterWorks(t *testing.T) {
	for _, n := range append(edges(), 5000) {
		name := fmt.Sprint(n, " bytes")
		d := device(t, 24)
		h := heap(t, d, 0, 3)
		w := begun(t, h)
		ref := stateOf(t, w).puts(t, name, w, h.Lives(), rising(n))
		row, e := blob.Blocks(w, ref)
		well(t, e, w.Commit())
		in := slices.Sorted(slices.Values(append([]int{0, 3}, row...)))
		live(t, name, h, in...)

		w = begun(t, h)
		s := stateOf(t, w)
		s.tells(t, name+", later", w, ref)
		if text, e := blob.Get(w, ref); text != rising(n) || e != api.OK {
			t.Fatalf("%s: later %d bytes, %d", name, len(text), e)
		}
		s.drops(t, name+", later", w, ref)
		// Given blocks can't be taken by this work: what it puts goes elsewhere.
		s = stateOf(t, w)
		s.puts(t, name+", dropped", w, in, rising(n))
		well(t, w.Drop())
		live(t, name+", a work that was dropped", h, in...)

		well(t, d.Crash(), d.Wake())
		h = heap(t, d, in...)
		w = begun(t, h)
		if text, e := blob.Get(w, ref); text != rising(n) || e != api.OK {
			t.Fatalf("%s: behind a loss of power %d bytes, %d", name, len(text), e)
		}
		stateOf(t, w).drops(t, name+", behind a loss of power", w, ref)
		well(t, w.Commit())
		live(t, name+", dropped and committed", h, 0, 3)

		w = begun(t, h)
		s = stateOf(t, w)
		s.tells(t, name+", gone", w, ref)
		if again := s.puts(t, name+", again", w, h.Lives(), rising(n)); again != ref {
			t.Fatalf("%s: again at %d, not %d", name, again, ref)
		}
	}
}

// P14.2, P14.4: what a Commit writes is the text's blocks, all of them fresh: no record in the log; a Drop of a blob writes nothing.
func TestWhatIsWritten(t *testing.T) {
	d := device(t, 8)
	h := heap(t, d, 1)
	w := begun(t, h)
	ref, e := blob.Put(w, rising(600))
	want := d.Copy()
	well(t, e, w.Commit())
	for i, data := range []string{blockOf(3, 248, rising(248)), blockOf(4, 248, rising(496)[248:]), blockOf(0, 104, rising(600)[496:])} {
		well(t, want.Store(heapAt+256*[]int{0, 2, 3}[i], []byte(data)))
	}
	// A word and a line at a time, and one Fence.
	if got := d.Ops(); got != 3*(32+4)+1 || string(d.Image()) != string(want.Image()) {
		t.Errorf("%d operations, or other bytes", got)
	}
	w = begun(t, h)
	well(t, blob.Drop(w, ref), w.Commit())
	if d.Ops() != 3*(32+4)+1 {
		t.Errorf("a Drop: %d operations in all", d.Ops())
	}
	live(t, "dropped", h, 1)
}

// P14.2 to P14.5: long rows of calls in works that are committed and dropped, against the texts that were put.
func TestLongRows(t *testing.T) {
	r := rand.New(rand.NewPCG(14, 2))
	codes := map[string]int{}
	for range 12 {
		d := device(t, 20+r.IntN(30))
		h := heap(t, d, 7)
		kept := map[uint32]string{}
		for range 40 {
			w := begun(t, h)
			texts := maps.Clone(kept)
			for range r.IntN(10) {
				codes[anyCall(t, r, h, w, texts)]++
			}
			if r.IntN(3) == 0 {
				well(t, w.Drop())
				continue
			}
			well(t, w.Commit())
			kept = texts
			blocksOf(t, h, kept)
		}
	}
	for _, name := range []string{"put", "no room", "dropped", "no blob"} {
		if codes[name] < 50 {
			t.Errorf("too few of a kind: %v", codes)
		}
	}
}

// anyCall makes a call by chance, holds it against the words, and keeps what texts there are; it is what came of it.
func anyCall(t *testing.T, r *rand.Rand, h *blocks.Heap, w *blocks.Work, texts map[uint32]string) string {
	t.Helper()
	s := stateOf(t, w)
	for ref, text := range texts {
		if got, e := blob.Get(w, ref); got != text || e != api.OK {
			t.Fatalf("Get(%d) = %d bytes, %d; not %d", ref, len(got), e, len(text))
		}
	}
	refs := slices.Sorted(maps.Keys(texts))
	switch k := r.IntN(8); {
	case k < 4:
		n := edges()[r.IntN(len(edges()))] + r.IntN(2)*r.IntN(2500)
		if need := blob.Need(n); need > len(s.free(h.Lives())) {
			s.puts(t, "a long row", w, h.Lives(), rising(n))
			// What stays taken is no blob's: it is given back, for the next calls.
			for _, b := range stateOf(t, w).taken {
				if !slices.Contains(s.taken, b) {
					well(t, w.Give(b))
				}
			}
			return "no room"
		}
		from := r.IntN(9)
		text := rising(from + n)[from:]
		if ref := s.puts(t, "a long row", w, h.Lives(), text); ref != 0 {
			texts[ref] = text
		}
		return "put"
	case k < 7 && len(refs) > 0:
		ref := refs[r.IntN(len(refs))]
		s.drops(t, "a long row", w, ref)
		delete(texts, ref)
		return "dropped"
	default:
		ref := uint32(9 + r.IntN(60))
		for ref <= uint32(w.Blocks()) && s.blocks[ref-1] != "" {
			ref++
		}
		s.tells(t, "a long row", w, ref)
		s.drops(t, "a long row", w, ref)
		return "no blob"
	}
}

// blocksOf holds that the live blocks are those of the texts, each just once, and the one that was live at first.
func blocksOf(t *testing.T, h *blocks.Heap, texts map[uint32]string) {
	t.Helper()
	w := begun(t, h)
	l := []int{7}
	for ref, text := range texts {
		row, e := blob.Blocks(w, ref)
		if e != api.OK || len(row) != blob.Need(len(text)) {
			t.Fatalf("Blocks(%d) = %v, %d", ref, row, e)
		}
		l = append(l, row...)
	}
	slices.Sort(l)
	live(t, "a long row", h, l...)
	well(t, w.Drop())
}
