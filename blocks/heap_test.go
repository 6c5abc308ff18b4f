package blocks_test

import (
	"bytes"
	"fmt"
	"math"
	"slices"
	"testing"

	"vellum/api"
	"vellum/blocks"
	"vellum/pmem"
	"vellum/txn"
)

// P13.1 to P13.6: the rows of the examples.
func TestExamples(t *testing.T) {
	g := the()
	d := from(t, zeros(2368))
	p := g.pool(t, d)
	h, e := blocks.New(p, 320, 8)
	well(t, e, h.Load([]int{0, 1, 3}))
	lives(t, "loaded", h, 8, 0, 1, 3)
	refused(t, "Load", api.ErrArg, h.Load([]int{3, 3}), h.Load([]int{8}))
	well(t, h.Load([]int{3, 0, 1}))
	w := begun(t, h)
	takes := func(want ...int) {
		t.Helper()
		for _, b := range want {
			if got := taken(t, w); got != b {
				t.Fatalf("Take = %d, not %d", got, b)
			}
		}
	}
	takes(2, 4)
	well(t, w.Give(1))
	takes(5)
	if !slices.Equal(w.Given(), []int{1}) || !slices.Equal(w.Taken(), []int{2, 4, 5}) {
		t.Errorf("given %v, taken %v", w.Given(), w.Taken())
	}
	well(t, w.Give(4))
	takes(4)
	refused(t, "not in use", api.ErrBlock, w.Give(1), w.Give(7), second(w.Read(1)))
	well(t, w.Write(2, []byte(filled(7))))
	refused(t, "255 bytes", api.ErrArg, w.Write(0, make([]byte, 255)))
	if v, e := w.Root(); v != 0 || e != api.OK {
		t.Errorf("Root = %d, %d", v, e)
	}
	well(t, w.SetRoot(258))
	if v, e := w.Root(); v != 258 || e != api.OK {
		t.Errorf("Root = %d, %d", v, e)
	}
	well(t, w.Commit())
	lives(t, "committed", h, 8, 0, 2, 3, 4, 5)
	refused(t, "over", api.ErrState, w.Commit(), second(w.Take()))
	if len(w.Taken()) != 0 {
		t.Errorf("over: taken %v", w.Taken())
	}
	if b := d.Image(); string(b[64:72]) != word(258) || string(b[832:1088]) != filled(7) {
		t.Errorf("the root is % x, block 2 % x", b[64:72], b[832:1088])
	}
	w = begun(t, h)
	takes(1, 6, 7)
	for range 4 {
		if b, e := w.Take(); b != 0 || e != api.ErrSpace {
			t.Errorf("Take = %d, %d", b, e)
		}
	}
	well(t, w.Drop())
	lives(t, "dropped", h, 8, 0, 2, 3, 4, 5)
	for _, x := range [][2]int{{320, 9}, {64, 1}, {321, 1}, {320, -1}} {
		if other, e := blocks.New(p, x[0], x[1]); other != nil || e != api.ErrArg {
			t.Errorf("New(%d, %d) = %v, %d", x[0], x[1], other, e)
		}
	}
	w = begun(t, h)
	well(t, w.Write(0, make([]byte, 256)))
	refused(t, "a second one", api.ErrState, second(h.Begin()), h.Load([]int{0}))
	refused(t, "a log that is too small", api.ErrFull, w.Commit())
	ended(t, "a log that is too small", w, 8)
}

// P13.1: all places on devices and around them, and numbers of blocks, those at the ends of ints among them: which may be; a heap of no blocks, and one that ends where the pool ends.
func TestNew(t *testing.T) {
	for _, size := range []int{256, 320, 512, 576, 2368} {
		g := ground{128, 128, 256, 0}
		d := from(t, over(rising(size), 128, zeros(8)))
		p := g.pool(t, d)
		places, counts := odd(), odd()
		for at := -130; at <= size+520; at++ {
			places = append(places, at)
		}
		for n := -2; n <= size/256+2; n++ {
			counts = append(counts, n)
		}
		made := 0
		for _, at := range places {
			for _, n := range counts {
				may := at >= 128 && at <= size && at%64 == 0 && n >= 0 && n <= size && at+256*n <= size
				h, e := blocks.New(p, at, n)
				if !may && (h != nil || e != api.ErrArg) || may && (h == nil || e != api.OK) {
					t.Fatalf("%d bytes: New(%d, %d) = %v, %d", size, at, n, h, e)
				}
				if may {
					lives(t, fmt.Sprintf("%d bytes, New(%d, %d)", size, at, n), h, n)
					made++
				}
			}
		}
		if made == 0 || d.Ops() != 0 {
			t.Errorf("%d bytes: %d heaps, %d operations", size, made, d.Ops())
		}
	}
}

// P13.1: nothing is done to the device, which may be off, and whose log may hold anything; arms wait on. ErrArg there, too.
func TestNewDoesNothing(t *testing.T) {
	g := the()
	for i, image := range []string{g.image(), zeros(2368), rising(2368)} {
		for _, off := range []bool{false, true} {
			d := from(t, image)
			well(t, d.Store8(320, 1), d.Flush(320), d.Store8(328, 2), d.Arm(api.Arm{After: 1}))
			if off {
				well(t, d.Crash(0, 0, 0, 0, 0, 1))
			}
			was := d.Copy()
			p := g.pool(t, d)
			h, e := blocks.New(p, 320, 8)
			well(t, e)
			lives(t, "new", h, 8)
			well(t, h.Load([]int{7, 2}))
			lives(t, "loaded", h, 8, 2, 7)
			refused(t, "wrong", api.ErrArg, second(blocks.New(p, 320, 9)), second(blocks.New(p, 64, 0)), h.Load([]int{2, 2}))
			same(t, fmt.Sprint("image ", i), d, was)
		}
	}
}

// P13.1, R3: pools that are none: ErrNil, ahead of all else.
func TestNewOfNone(t *testing.T) {
	g := the()
	byHand := *g.pool(t, from(t, g.image()))
	off := from(t, g.image())
	byHandOff := *g.pool(t, off)
	well(t, off.Crash())
	for i, p := range []*txn.Pool{nil, {}, &byHand, &byHandOff} {
		for _, x := range [][2]int{{320, 8}, {128, 0}, {0, 0}, {321, -1}, {math.MaxInt, math.MinInt}} {
			if h, e := blocks.New(p, x[0], x[1]); h != nil || e != api.ErrNil {
				t.Errorf("pool %d: New(%d, %d) = %v, %d", i, x[0], x[1], h, e)
			}
		}
	}
}

// P13.1 to P13.3, R3: heaps that are none.
func TestHeapsThatAreNone(t *testing.T) {
	g := the()
	h := g.heap(t, from(t, g.image()), 1, 2)
	open := g.heap(t, from(t, g.image()), 1, 2)
	begun(t, open)
	offDevice := from(t, g.image())
	off := g.heap(t, offDevice, 1, 2)
	well(t, offDevice.Crash())
	byHand, byHandOpen, byHandOff := *h, *open, *off
	for i, x := range []*blocks.Heap{nil, {}, &byHand, &byHandOpen, &byHandOff} {
		if x.Room() != (api.Room{}) || len(x.Lives()) != 0 {
			t.Errorf("heap %d: %v, %v", i, x.Room(), x.Lives())
		}
		w, e := x.Begin()
		if w != nil {
			t.Errorf("heap %d: a work", i)
		}
		refused(t, fmt.Sprint("heap ", i), api.ErrNil, e, x.Load(nil), x.Load([]int{3}), x.Load([]int{-1, -1}))
	}
	lives(t, "the one that was copied", h, 8, 1, 2)
	well(t, begun(t, h).Drop())
}

// P13.4 to P13.6, R3: works that are none: ErrNil, ahead of wrong arguments, of one that is over, and of a device that is off.
func TestWorksThatAreNone(t *testing.T) {
	g := the()
	d := from(t, g.image())
	h := g.heap(t, d, 1, 2)
	gone := begun(t, h)
	well(t, gone.Drop())
	w := begun(t, h)
	well(t, w.Give(1))
	taken(t, w)
	byHand, byHandGone := *w, *gone
	for _, off := range []bool{false, true} {
		if off {
			well(t, d.Crash())
		}
		for i, x := range []*blocks.Work{nil, {}, &byHand, &byHandGone} {
			for _, b := range []int{0, 1, 2, -1, 8, math.MaxInt} {
				got, e := x.Take()
				data, f := x.Read(b)
				v, g := x.Root()
				if got != 0 || len(data) != 0 || v != 0 {
					t.Errorf("work %d: %d, % x, %d beside errors", i, got, data, v)
				}
				refused(t, fmt.Sprint("work ", i), api.ErrNil, e, f, g, x.Give(b), x.Write(b, make([]byte, 256)), x.Write(b, nil), x.SetRoot(1), x.Commit(), x.Drop())
			}
			if x.Blocks() != 0 || len(x.Taken()) != 0 || len(x.Given()) != 0 {
				t.Errorf("work %d: %d blocks, taken %v, given %v", i, x.Blocks(), x.Taken(), x.Given())
			}
		}
	}
	well(t, d.Wake())
	if !slices.Equal(w.Taken(), []int{0}) || !slices.Equal(w.Given(), []int{1}) {
		t.Errorf("the one that was copied: taken %v, given %v", w.Taken(), w.Given())
	}
	well(t, w.Drop())
}

// lists is all lists of up to three numbers from -1 to n.
func lists(n int) [][]int {
	l := [][]int{nil}
	for from := 0; from < len(l); from++ {
		if len(l[from]) == 3 {
			break
		}
		for b := -1; b <= n; b++ {
			l = append(l, append(slices.Clone(l[from]), b))
		}
	}
	return l
}

// P13.2: all short lists, on heaps of up to four blocks: which may be, and what is live then, by Load behind Load; with an error what was live stays so.
func TestLoad(t *testing.T) {
	for n := range 5 {
		g := ground{128, 128, 256, n}
		d := from(t, over(rising(256+256*n), 128, zeros(8)))
		h := g.heap(t, d)
		var now []int
		for _, l := range lists(n) {
			next := slices.Sorted(slices.Values(l))
			want := api.OK
			if len(slices.Compact(slices.Clone(next))) < len(next) || len(next) > 0 && (next[0] < 0 || next[len(next)-1] >= n) {
				want = api.ErrArg
			} else {
				now = next
			}
			refused(t, fmt.Sprint(n, " blocks, Load ", l), want, h.Load(l))
			lives(t, fmt.Sprint(n, " blocks, Load ", l), h, n, now...)
		}
		for _, b := range append(odd(), -1, n, n+1) {
			refused(t, fmt.Sprint("Load ", b), api.ErrArg, h.Load([]int{b}), h.Load([]int{b, b}))
		}
		lives(t, "behind wrong ones", h, n, now...)
		if d.Ops() != 0 {
			t.Errorf("%d operations", d.Ops())
		}
	}
}

// P13.2: one wrong number in a long list, wherever it stands.
func TestLoadOfLongLists(t *testing.T) {
	g := ground{128, 128, 256, 300}
	h := g.heap(t, from(t, zeros(g.size())), 5, 9)
	var all []int
	for b := range 300 {
		all = append(all, (b*7+3)%300)
	}
	for i := range all {
		for _, b := range []int{all[(i+1)%300], -1, 300, math.MinInt, math.MaxInt} {
			l := slices.Clone(all)
			l[i] = b
			refused(t, fmt.Sprint(b, " at ", i), api.ErrArg, h.Load(l))
		}
		refused(t, fmt.Sprint("once more ", i), api.ErrArg, h.Load(append(slices.Clone(all), i)))
	}
	lives(t, "behind wrong ones", h, 300, 5, 9)
	well(t, h.Load(all))
	lives(t, "all", h, 300, slices.Sorted(slices.Values(all))...)
	well(t, h.Load(nil))
	lives(t, "none", h, 300)
}

// P13.2, R3: an open work goes ahead of wrong numbers, and Load changes nothing then; when the work is over, by whichever call, Load goes well.
func TestLoadBesideAWork(t *testing.T) {
	g := the()
	ends := map[string]func(d *pmem.Device, w *blocks.Work) api.Errno{
		"Commit": func(d *pmem.Device, w *blocks.Work) api.Errno { return w.Commit() },
		"Drop":   func(d *pmem.Device, w *blocks.Work) api.Errno { return w.Drop() },
		"a Commit that the log does not take": func(d *pmem.Device, w *blocks.Work) api.Errno {
			well(t, w.Write(3, make([]byte, 256)))
			refused(t, "Commit", api.ErrFull, w.Commit())
			return api.OK
		},
		"ErrOff": func(d *pmem.Device, w *blocks.Work) api.Errno {
			well(t, d.Crash())
			refused(t, "Root", api.ErrOff, second(w.Root()))
			return d.Wake()
		},
		"a Commit that is cut off": func(d *pmem.Device, w *blocks.Work) api.Errno {
			well(t, w.SetRoot(1), d.Arm(api.Arm{After: 1}))
			refused(t, "Commit", api.ErrOff, w.Commit())
			return d.Wake()
		},
	}
	for name, end := range ends {
		d := from(t, g.image())
		h := g.heap(t, d, 3, 4)
		w := begun(t, h)
		for _, l := range [][]int{nil, {0}, {3, 4}, {3, 3}, {-1}, {8}} {
			refused(t, name, api.ErrState, h.Load(l))
		}
		lives(t, name, h, 8, 3, 4)
		// That the device is off is nothing to Load, nor does it end the work.
		well(t, d.Crash())
		refused(t, name+", off", api.ErrState, h.Load(nil))
		well(t, d.Wake(), second(w.Root()), end(d, w))
		refused(t, name, api.ErrArg, h.Load([]int{3, 3}))
		lives(t, name+", over", h, 8, 3, 4)
		well(t, h.Load([]int{6}))
		lives(t, name+", loaded", h, 8, 6)
	}
}

// P13.2: a transaction of the pool that is no work of the heap is nothing to Load.
func TestLoadBesideATransaction(t *testing.T) {
	g := the()
	p := g.pool(t, from(t, g.image()))
	h, e := blocks.New(p, 320, 8)
	well(t, e, second(p.Begin()))
	well(t, h.Load([]int{5}))
	lives(t, "beside a transaction", h, 8, 5)
	refused(t, "Begin", api.ErrState, second(h.Begin()))
}

// P13.3: what the pool's Begin answers: off, another one that is open, records, a log that can't be read; nothing is done to the device, and the heap stays without a work.
func TestBegin(t *testing.T) {
	g := the()
	records := over(over(g.image(), 128, word(1)), 192, record(64, rising(72)[64:72]))
	for image, want := range map[string]api.Errno{g.image(): api.OK, zeros(2368): api.OK, records: api.ErrState, rising(2368): api.ErrLog} {
		d := from(t, image)
		was := d.Copy()
		h := g.heap(t, d, 2)
		for range 3 {
			w, e := h.Begin()
			if e != want || (w != nil) != (want == api.OK) {
				t.Fatalf("Begin = %v, %d; not %d", w, e, want)
			}
			if w == nil {
				well(t, h.Load([]int{2}))
				continue
			}
			modelOf(g, image, 2).tells(t, "a new one", d, h, w)
			other, e := h.Begin()
			if other != nil || e != api.ErrState {
				t.Fatalf("Begin once more = %v, %d", other, e)
			}
			modelOf(g, image, 2).tells(t, "behind a second one", d, h, w)
			well(t, w.Drop())
		}
		same(t, "Begin", d, was)
		well(t, d.Crash())
		if w, e := h.Begin(); w != nil || e != api.ErrOff {
			t.Fatalf("off: Begin = %v, %d", w, e)
		}
		well(t, h.Load([]int{2}), d.Wake())
		refused(t, "on again", want, second(h.Begin()))
	}
}

// P13.3: behind a Begin that goes well each work begins anew, whatever the last one took and gave, and whatever became of it.
func TestBeginAnew(t *testing.T) {
	g := the()
	d := from(t, g.image())
	h := g.heap(t, d, 0, 1, 3)
	for i := range 6 {
		w := begun(t, h)
		image := string(d.Image())
		modelOf(g, image, 0, 1, 3).tells(t, fmt.Sprint("work ", i), d, h, w)
		b := taken(t, w)
		well(t, w.Give(1), w.Write(b, []byte(rising(256))), w.SetRoot(uint64(i)))
		switch i % 3 {
		case 0:
			well(t, w.Drop())
		case 1:
			well(t, w.Write(0, []byte(rising(256))))
			refused(t, "Commit", api.ErrFull, w.Commit())
		case 2:
			well(t, d.Crash())
			refused(t, "Take", api.ErrOff, second(w.Take()))
			well(t, d.Wake())
		}
	}
}

// R5: what is handed in is not changed and not kept; what is told is new memory.
func TestNothingIsShared(t *testing.T) {
	g := roomy(8)
	d := from(t, g.image())
	h := g.heap(t, d)
	room := []int{5, 3, 1, 7, 7, 7}
	well(t, h.Load(room[:3]))
	if !slices.Equal(room, []int{5, 3, 1, 7, 7, 7}) {
		t.Errorf("the list is %v", room)
	}
	clear(room)
	lives(t, "the list was changed", h, 8, 1, 3, 5)
	spoil := func(l []int) {
		for i := range l[:cap(l)] {
			l[:cap(l)][i] = 99
		}
	}
	spoil(h.Lives())
	lives(t, "what was told was changed", h, 8, 1, 3, 5)
	w := begun(t, h)
	m := modelOf(g, g.image(), 1, 3, 5)
	for _, a := range []act{take(), take(), take(), give(3), give(5), give(2)} {
		a.does(t, "shared", w, m)
	}
	spoil(w.Taken())
	spoil(w.Given())
	m.tells(t, "what was told was changed", d, h, w)
	data := []byte(rising(300))
	well(t, w.Write(0, data[:256]), m.write(0, rising(256)), w.Write(1, data[:256:256]), m.write(1, rising(256)))
	if string(data) != rising(300) {
		t.Errorf("the bytes are % x", data)
	}
	clear(data)
	m.tells(t, "the bytes were changed", d, h, w)
	b, e := w.Read(1)
	c, f := w.Read(1)
	well(t, e, f)
	clear(b)
	if !bytes.Equal(c, []byte(rising(256))) {
		t.Errorf("two Reads share: % x", c)
	}
	m.tells(t, "what was read was changed", d, h, w)
	spoil(w.Taken())
	take().does(t, "shared", w, m)
	m.commits(t, "shared", d, h, w)
}

// R6: heaps of two devices know nothing of each other, nor does a new heap of a device of the old one.
func TestHeapsKnowNothingOfEachOther(t *testing.T) {
	g := roomy(4)
	a, b := from(t, g.image()), from(t, g.image())
	was := b.Copy()
	one, two := g.heap(t, a, 0), g.heap(t, b, 1, 2)
	w, x := begun(t, one), begun(t, two)
	m, k := modelOf(g, g.image(), 0), modelOf(g, g.image(), 1, 2)
	for _, c := range []act{take(), write(1, filled(9)), give(0), setRoot(5)} {
		c.does(t, "the first", w, m)
	}
	for _, c := range []act{take(), give(1), setRoot(6)} {
		c.does(t, "the second", x, k)
	}
	m.tells(t, "the first", a, one, w)
	k.tells(t, "the second", b, two, x)
	well(t, m.commits(t, "the first", a, one, w))
	same(t, "the second device", b, was)
	k.tells(t, "the second", b, two, x)
	lives(t, "a new heap", g.heap(t, a), 4)
}
