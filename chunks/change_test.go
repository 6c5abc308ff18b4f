package chunks_test

import (
	"fmt"
	"math/rand/v2"
	"slices"
	"strings"
	"testing"

	"vellum/api"
	"vellum/blocks"
	"vellum/chunks"
	"vellum/pmem"
)

// lengths is how many bytes the tests put in at a place: edges, just as many as the chunk there has room for, and those next to that.
func (s scene) lengths(at int) []int {
	l := []int{0, 1, 2, 126, 127, 251, 252, 253, 504, 505}
	for _, n := range s.sizes {
		if at <= n {
			l = append(l, 252-n, 252-n+1, 504-n, 504-n+1)
			break
		}
		at -= n
	}
	slices.Sort(l)
	return slices.Compact(l)
}

// P17.4, P17.8: into texts of up to three chunks of all sizes that are edges, and into the empty one, some bytes at each place that is an edge, against the same done by hand.
func TestInsert(t *testing.T) {
	for _, s := range scenes(3, []int{1, 2, 126, 127, 251, 252}, 6) {
		for _, at := range s.edges() {
			for i, n := range s.lengths(at) {
				p, ref := s.twins(t)
				next, e := p.inserts(t, fmt.Sprint("sizes ", s.sizes), ref, at, prose(n, i))
				well(t, e)
				if n == 0 && next != ref {
					t.Fatalf("Insert of nothing = %d, not %d", next, ref)
				}
			}
		}
	}
}

// P17.5, P17.8: out of texts of up to three chunks all bytes between each two places that are edges.
func TestDelete(t *testing.T) {
	for _, s := range scenes(3, []int{1, 2, 126, 127, 251, 252}, 2) {
		for _, from := range s.edges() {
			for _, to := range s.edges() {
				if from > to {
					continue
				}
				p, ref := s.twins(t)
				next, e := p.deletes(t, fmt.Sprint("sizes ", s.sizes), ref, from, to)
				well(t, e)
				if from == to && next != ref || to-from == len(s.text) && next != 0 {
					t.Fatalf("Delete from %d to %d = %d", from, to, next)
				}
			}
		}
	}
}

// P17.5: each single byte, and each two, out of some texts.
func TestDeleteFew(t *testing.T) {
	for _, sizes := range [][]int{{1}, {2}, {252}, {126, 127}, {1, 252, 1}, {252, 1, 252}} {
		s := scene{text: prose(sum(sizes), 1), sizes: sizes}
		for from := range len(s.text) {
			for n := 1; n < 3 && from+n <= len(s.text); n++ {
				p, ref := s.twins(t)
				p.deletes(t, fmt.Sprint("sizes ", sizes), ref, from, from+n)
			}
		}
	}
}

// P17.4: a new text of each length up to some, of 252 and their multiples, and those next to them, up to some thousands.
func TestNewTexts(t *testing.T) {
	var l []int
	for n := range 800 {
		l = append(l, n)
	}
	for k := 4; k < 20; k++ {
		l = append(l, 252*k-1, 252*k, 252*k+1)
	}
	for _, n := range append(l, 4096, 5000, 9999) {
		p, _ := scene{free: 50}.twins(t)
		ref, e := p.inserts(t, "a new text", 0, 0, prose(n, n))
		well(t, e)
		if (n == 0) != (ref == 0) {
			t.Errorf("%d bytes: reference %d", n, ref)
		}
		if n%50 == 0 && !tells(t, "a new text", p.w, ref) {
			t.Errorf("%d bytes: no text", n)
		}
	}
}

// P17.4, P17.5: texts whose table has one block, just full, two and three: so many bytes put in that it has none more, one more, two more; so many taken out, from any chunk to any other, that the first, the middle, the last of its blocks go.
func TestTableBlocks(t *testing.T) {
	for i, counts := range [][]int{{13}, {14}, {15}, {15, 1}, {1, 15}, {8, 8}, {15, 15, 2}, {2, 14, 15, 3}} {
		s := scene{table: counts, free: 40}
		for k := range sum(counts) {
			s.sizes = append(s.sizes, []int{252, 1, 252, 130, 123}[k%5])
		}
		s.text = prose(sum(s.sizes), i)
		name := fmt.Sprint("table blocks with ", counts)
		at := 0
		var seams []int
		for _, n := range append(s.sizes, 0) {
			seams = append(seams, at)
			at += n
		}
		for k, at := range seams {
			for _, n := range []int{1, 252, 253, 505, 252 * 14, 252 * 15, 252 * 16, 252 * 31} {
				p, ref := s.twins(t)
				p.inserts(t, name, ref, at, prose(n, 3))
				if k%4 == 0 {
					p, ref := s.twins(t)
					p.inserts(t, name, ref, min(at+100, len(s.text)), prose(n, 4))
				}
			}
			for j := k; j < len(seams); j++ {
				if (j-k)%3 == 1 {
					continue
				}
				p, ref := s.twins(t)
				p.deletes(t, name, ref, at, seams[j])
				p, ref = s.twins(t)
				p.deletes(t, name, ref, min(at+1, seams[j]), min(seams[j]+1, len(s.text)))
			}
		}
	}
}

// P17.4: where what comes of a chunk that is cut goes into its neighbours: which blocks are taken, which one is given, and that Take goes ahead of Give, and both ahead of what the table takes.
func TestCutsThatJoin(t *testing.T) {
	// Of 1 and 252 and 1 bytes: 127 and 126 of the middle one and what comes; each neighbour takes one of them.
	s := scene{text: prose(254, 2), sizes: []int{1, 252, 1}, free: 2}
	for at := 2; at <= 253; at++ {
		p, ref := s.twins(t)
		was := blocksOf(second3(read(t, p.w, ref)))
		next, e := p.inserts(t, "cut and joined", ref, at, "!")
		well(t, e)
		plan, _, _ := read(t, p.w, next)
		if !slices.Equal(sizesOf(plan), []int{128, 127}) || !slices.Equal(blocksOf(plan), []int{was[0], was[2]}) || plan[0].at != 128 || plan[1].at != 127 {
			t.Fatalf("at %d: sizes %v, blocks %v of %v", at, sizesOf(plan), blocksOf(plan), was)
		}
	}
	// All of them taken: the middle one's block is given back, and taken again only later, though it is the least of the free ones.
	p := twins{work(t, 9), work(t, 9)}
	ref := uint32(0)
	for i, c := range []struct {
		at, n int
	}{{0, 252}, {252, 1}, {0, 100}, {100, 152}, {252, 252}, {1, 300}, {0, 1}} {
		next, e := p.inserts(t, "back and forth", ref, c.at, prose(c.n, i))
		well(t, e)
		ref = next
	}
	for i := range 40 {
		next, e := p.inserts(t, "back and forth", ref, i*17%200, prose(1+i%9, i))
		well(t, e)
		ref, e = p.deletes(t, "back and forth", next, i*31%200, i*31%200+1+i%9)
		well(t, e)
	}
}

// second3 is the first of three answers.
func second3(plan []row, _ []int, _ bool) []row { return plan }

// P17.7: with fewer free blocks than an Insert needs: ErrSpace, and what was done until then is what the words' order says: of the chunks' blocks, and of the table's.
func TestNoSpace(t *testing.T) {
	short, enough, cells := 0, 0, 0
	tables := [][]int{nil, {15}, {15, 15}, {1, 15, 14}}
	for i, counts := range tables {
		s := scene{table: counts}
		for k := range sum(counts) {
			s.sizes = append(s.sizes, []int{252, 1, 252, 130, 123}[k%5])
		}
		s.text = prose(sum(s.sizes), i)
		for _, n := range []int{1, 252, 253, 600, 252 * 7, 252 * 16} {
			for _, at := range []int{0, 1, len(s.text) / 2, len(s.text) - 1, len(s.text)} {
				if at < 0 || at > len(s.text) {
					continue
				}
				for free := range 20 {
					s.free = free
					p, ref := s.twins(t)
					before := stateOf(t, p.w)
					_, e := p.inserts(t, fmt.Sprint("table ", counts, ", ", free, " free"), ref, at, prose(n, free))
					switch e {
					case api.OK:
						enough++
					case api.ErrSpace:
						short++
						now := stateOf(t, p.w)
						for b := range now.blocks {
							if before.blocks[b] != "" && now.blocks[b] != before.blocks[b] {
								// It came as far as to write.
								cells++
								break
							}
						}
					default:
						t.Fatalf("Insert = %d", e)
					}
				}
			}
		}
	}
	if short < 300 || enough < 300 || cells < 30 {
		t.Errorf("%d without room, %d of these had written, %d with room", short, cells, enough)
	}
	// And where there is none at all.
	for _, w := range []*blocks.Work{work(t, 0), work(t, 2, 0, 1), work(t, 1)} {
		if next, e := chunks.Insert(w, 0, 0, "x"); next != 0 || e != api.ErrSpace {
			t.Errorf("Insert = %d, %d", next, e)
		}
	}
}

// P17.5, P17.7: out of a text some bytes are taken where no block is free: that takes none.
func TestDeleteWithoutSpace(t *testing.T) {
	for _, s := range scenes(3, []int{1, 127, 252}, 0) {
		for _, from := range s.edges() {
			for _, to := range s.edges() {
				if from <= to {
					p, ref := s.twins(t)
					_, e := p.deletes(t, fmt.Sprint("sizes ", s.sizes), ref, from, to)
					well(t, e)
				}
			}
		}
	}
}

// committed lays a scene twice, all of it committed, and does something to the one by chunks and to the other one by hand in a later work, which is committed: both devices hold the same, by as many operations.
func committed(t *testing.T, name string, s scene, change func(p twins, ref uint32)) {
	t.Helper()
	s.later = true
	d, h, w, ref := s.lay(t)
	other, g, hand, _ := s.lay(t)
	was := d.Copy()
	change(twins{w, hand}, ref)
	untouched(t, name, d, was)
	well(t, w.Commit(), hand.Commit())
	if d.Ops() != other.Ops() {
		t.Fatalf("%s: %d operations, not %d", name, d.Ops()-was.Ops(), other.Ops()-was.Ops())
	}
	if string(d.Image()) != string(other.Image()) || !slices.Equal(h.Lives(), g.Lives()) {
		t.Fatalf("%s: other bytes, or live %v, not %v", name, h.Lives(), g.Lives())
	}
}

// P17.4 to P17.6: what is written in a later work, told by the operations of its Commit: blocks whose bytes stay are not written, those that were taken are.
func TestLaterChanges(t *testing.T) {
	for i, s := range scenes(3, []int{1, 126, 127, 252}, 5) {
		name := fmt.Sprint("sizes ", s.sizes)
		for _, at := range s.edges() {
			for _, n := range []int{0, 1, 126, 253, 600} {
				committed(t, name, s, func(p twins, ref uint32) { p.inserts(t, name, ref, at, prose(n, i)) })
			}
			for _, to := range s.edges() {
				if at <= to {
					committed(t, name, s, func(p twins, ref uint32) { p.deletes(t, name, ref, at, to) })
				}
			}
		}
		committed(t, name, s, func(p twins, ref uint32) { p.drops(t, name, ref) })
	}
}

// P17.4, P17.5: texts of one letter: what comes of a change may be what stood there, bytes or cells.
func TestAlikeBytes(t *testing.T) {
	for _, sizes := range [][]int{{200, 100}, {200, 100, 200}, {252, 1, 252}} {
		s := scene{text: strings.Repeat("x", sum(sizes)), sizes: sizes, free: 4}
		for from := 0; from <= len(s.text); from += 10 {
			for to := from; to <= len(s.text); to += 10 {
				name := fmt.Sprint("sizes ", sizes)
				committed(t, name, s, func(p twins, ref uint32) { p.deletes(t, name, ref, from, to) })
			}
			committed(t, "sizes ", s, func(p twins, ref uint32) { p.inserts(t, "alike", ref, from, "xxx") })
		}
	}
}

// P17.4: a block that was taken just now is written also if its bytes stand there already.
func TestTakenBlocksAreWritten(t *testing.T) {
	d := device(t, 4)
	s := prose(300, 0)
	w := begun(t, heap(t, d))
	ref, e := chunks.Insert(w, 0, 0, s)
	well(t, e, w.Commit())
	// A new heap, of which nothing is live: but the bytes are there.
	before := d.Ops()
	w = begun(t, heap(t, d))
	again, e := chunks.Insert(w, 0, 0, s)
	well(t, e, w.Commit())
	// A word and a line at a time, and one Fence.
	if got := d.Ops() - before; again != ref || got != 3*(32+4)+1 {
		t.Errorf("reference %d, %d operations", again, got)
	}
}

// P17.4, P17.5: one types: bytes put in one by one where the last one went, and some taken out again.
func TestTyping(t *testing.T) {
	p := twins{work(t, 40), work(t, 40)}
	ref, text, at := uint32(0), "", 0
	for i, c := range []byte(prose(1500, 0)) {
		switch {
		case i%7 == 6 && at > 3:
			next, e := p.deletes(t, "typing", ref, at-3, at)
			well(t, e)
			ref, text, at = next, text[:at-3]+text[at:], at-3
		case i%211 == 210:
			at = i % len(text)
		default:
			next, e := p.inserts(t, "typing", ref, at, string([]byte{c}))
			well(t, e)
			ref, text, at = next, text[:at]+string([]byte{c})+text[at:], at+1
		}
	}
	if got, e := chunks.Read(p.w, ref, 0, len(text)); got != text || e != api.OK || len(text) < 500 {
		t.Errorf("Read = %d bytes, %d", len(got), e)
	}
	tells(t, "typing", p.w, ref)
}

// shelf is two heaps to which the same is done, and the texts that lie there.
type shelf struct {
	d, other *pmem.Device
	h, g     *blocks.Heap
	texts    map[uint32]string
}

// P17.1 to P17.8: long rows of calls on several texts of one heap, in works that are committed and dropped, behind losses of power, too, against strings, and against the same done by hand.
func TestLongRows(t *testing.T) {
	r := rand.New(rand.NewPCG(17, 3))
	kinds := map[string]int{}
	for range 20 {
		n := 9 + r.IntN(16)
		k := shelf{d: device(t, n), other: device(t, n), texts: map[uint32]string{}}
		k.h, k.g = heap(t, k.d, 7), heap(t, k.other, 7)
		for range 30 {
			p := twins{begun(t, k.h), begun(t, k.g)}
			now := map[uint32]string{}
			for ref, s := range k.texts {
				now[ref] = s
			}
			for range r.IntN(10) {
				kind := anyCall(t, r, p, now)
				kinds[kind]++
				if kind == "no room" {
					// What is left is no text.
					now = nil
					break
				}
			}
			switch r.IntN(4) {
			case 0:
				now = nil
			case 1:
				well(t, k.d.Crash(), k.d.Wake(), k.other.Crash(), k.other.Wake())
				k.h, k.g = heap(t, k.d, k.h.Lives()...), heap(t, k.other, k.g.Lives()...)
				continue
			}
			if now == nil {
				well(t, p.w.Drop(), p.hand.Drop())
				continue
			}
			well(t, p.w.Commit(), p.hand.Commit())
			k.texts = now
			k.holds(t)
		}
	}
	for _, name := range []string{"inserted", "no room", "deleted", "dropped", "no text"} {
		if kinds[name] < 40 {
			t.Errorf("too few of a kind: %v", kinds)
		}
	}
}

// anyCall makes a call by chance on both, and keeps what texts there are; it is what came of it.
func anyCall(t *testing.T, r *rand.Rand, p twins, texts map[uint32]string) string {
	t.Helper()
	var refs []uint32
	for ref := range texts {
		refs = append(refs, ref)
	}
	slices.Sort(refs)
	ref := uint32(0)
	if len(refs) > 0 && (r.IntN(4) > 0 || len(refs) > 3) {
		ref = refs[r.IntN(len(refs))]
	}
	s := texts[ref]
	switch c := r.IntN(12); {
	case c < 5:
		at := r.IntN(len(s) + 1)
		x := prose(1+r.IntN([]int{3, 300, 1500}[r.IntN(3)]), r.IntN(30))
		next, e := p.inserts(t, "a long row", ref, at, x)
		if e != api.OK {
			return "no room"
		}
		delete(texts, ref)
		texts[next] = s[:at] + x + s[at:]
		return "inserted"
	case c < 9 && len(s) > 0:
		from := r.IntN(len(s))
		to := from + 1 + r.IntN(min(len(s)-from, 700))
		next, e := p.deletes(t, "a long row", ref, from, to)
		well(t, e)
		delete(texts, ref)
		if next != 0 {
			texts[next] = s[:from] + s[to:]
		}
		return "deleted"
	case c < 10 && len(s) > 0:
		well(t, p.drops(t, "a long row", ref))
		delete(texts, ref)
		return "dropped"
	default:
		// A chunk's, and what is free.
		for ref := range uint32(9) {
			if _, is := texts[ref]; is || ref == 0 {
				continue
			}
			if _, e := p.inserts(t, "a long row", ref, 0, "x"); e != api.ErrChunks {
				t.Fatalf("a text at %d", ref)
			}
		}
		return "no text"
	}
}

// holds holds that the live blocks are those of the texts, each just once, and the one that was live at first; and what is told of them.
func (k shelf) holds(t *testing.T) {
	t.Helper()
	if k.d.Ops() != k.other.Ops() || string(k.d.Image()) != string(k.other.Image()) {
		t.Fatal("other bytes, or operations")
	}
	w := begun(t, k.h)
	l := []int{7}
	for ref, s := range k.texts {
		if !tells(t, "a long row", w, ref) {
			t.Fatal("no text")
		}
		if got, e := chunks.Read(w, ref, 0, len(s)); got != s || e != api.OK {
			t.Fatalf("Read(%d) = %d", ref, e)
		}
		row, e := chunks.Blocks(w, ref)
		well(t, e)
		l = append(l, row...)
	}
	slices.Sort(l)
	if got := k.h.Lives(); !slices.Equal(got, l) {
		t.Fatalf("live are %v, not %v", got, l)
	}
	well(t, w.Drop())
}
