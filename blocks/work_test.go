package blocks_test

import (
	"fmt"
	"math"
	"math/rand/v2"
	"slices"
	"testing"

	"vellum/api"
	"vellum/blocks"
)

// P13.4: of all sets of live blocks: the least free one is taken, one behind the other, up to ErrSpace; given back in rising and in falling order, they are taken again likewise; live ones that are given are not.
func TestTake(t *testing.T) {
	for n := range 7 {
		g := ground{128, 128, 256, n}
		for _, live := range subsets(n) {
			name := fmt.Sprint(n, " blocks, live ", live)
			d := from(t, over(rising(g.size()), 128, zeros(8)))
			h := g.heap(t, d, live...)
			w := begun(t, h)
			m := modelOf(g, string(d.Image()), live...)
			for range 2 {
				for range n - len(live) + 2 {
					take().does(t, name, w, m)
				}
				m.tells(t, name, d, h, w)
				for _, b := range w.Taken() {
					give(b).does(t, name, w, m)
				}
				for range n - len(live) + 1 {
					take().does(t, name, w, m)
				}
				for _, b := range slices.Backward(w.Taken()) {
					give(b).does(t, name, w, m)
				}
				m.tells(t, name+", given back", d, h, w)
			}
			for _, b := range live {
				give(b).does(t, name, w, m)
				give(b).does(t, name+", once more", w, m)
			}
			for range n + 1 {
				take().does(t, name+", all given", w, m)
			}
			m.tells(t, name+", all given", d, h, w)
		}
	}
}

// inRow goes through all rows of so many acts.
func inRow(acts []act, length int, each func(row []act)) {
	row := make([]act, length)
	var fill func(i int)
	fill = func(i int) {
		if i == length {
			each(row)
			return
		}
		for _, a := range acts {
			row[i] = a
			fill(i + 1)
		}
	}
	fill(0)
}

// P13.4 to P13.6: each row of six Takes and Gives on three blocks, of which some are live, committed and dropped: what is taken and given, and what is live behind it.
func TestEachRowOfTakesAndGives(t *testing.T) {
	g := ground{128, 128, 256, 3}
	image := over(rising(g.size()), 128, zeros(8))
	for _, live := range subsets(3) {
		d := from(t, image)
		h := g.heap(t, d)
		inRow([]act{take(), give(0), give(1), give(2)}, 6, func(row []act) {
			for _, drop := range []bool{true, false} {
				well(t, h.Load(live))
				w := begun(t, h)
				m := modelOf(g, image, live...)
				for _, a := range row {
					a.does(t, named(row), w, m)
				}
				m.tells(t, named(row), d, h, w)
				if drop {
					well(t, w.Drop())
					lives(t, named(row)+"Drop", h, 3, live...)
				} else {
					well(t, w.Commit())
					lives(t, named(row)+"Commit", h, 3, m.inUse()...)
				}
			}
		})
		if d.Ops() != 0 {
			t.Errorf("%d operations", d.Ops())
		}
	}
}

// P13.4 to P13.7: each row of four calls of all kinds on two blocks, and what a Commit of it does.
func TestEachRowOfCalls(t *testing.T) {
	g := ground{128, 448, 576, 2}
	clean := from(t, over(rising(g.size()), 128, zeros(8)))
	acts := []act{take(), give(0), give(1), write(0, filled('a')), write(1, filled('b')), write(1, rising(256)), setRoot(1 << 40)}
	codes := map[api.Errno]int{}
	for _, live := range subsets(2) {
		inRow(acts, 4, func(row []act) {
			d := clean.Copy()
			h := g.heap(t, d, live...)
			w := begun(t, h)
			m := modelOf(g, string(d.Image()), live...)
			for _, a := range row {
				a.does(t, named(row), w, m)
			}
			m.tells(t, named(row), d, h, w)
			codes[m.commits(t, fmt.Sprint(live, " live, ", named(row)), d, h, w)]++
		})
	}
	if codes[api.OK] < 5000 || codes[api.ErrFull] < 20 {
		t.Errorf("too few of a kind: %v", codes)
	}
}

// P13.4: blocks that are not in use, and data that has not 256 bytes: which error comes first; nothing has changed.
func TestWrongBlocksAndData(t *testing.T) {
	g := roomy(6)
	d := from(t, g.image())
	was := d.Copy()
	h := g.heap(t, d, 0, 1, 3)
	w := begun(t, h)
	m := modelOf(g, g.image(), 0, 1, 3)
	// In use are 0, 3 and 2; 1 was given, 4 was given back.
	for _, a := range []act{take(), take(), give(4), give(1), write(3, filled(1)), write(2, filled(2)), setRoot(3)} {
		a.does(t, "in use", w, m)
	}
	for _, b := range append(odd(), -256, -1, 1, 4, 5, 6, 7, 8, 255, 256) {
		name := fmt.Sprint("block ", b)
		refused(t, name, api.ErrBlock, w.Give(b), second(w.Read(b)))
		for _, n := range []int{0, 1, 255, 256, 257, 512, 65536} {
			refused(t, name, api.ErrBlock, w.Write(b, make([]byte, n)))
		}
		refused(t, name, api.ErrBlock, w.Write(b, nil))
	}
	for _, b := range []int{0, 2, 3} {
		for _, n := range []int{0, 1, 8, 64, 128, 252, 255, 257, 512, 65536} {
			refused(t, fmt.Sprint(n, " bytes to ", b), api.ErrArg, w.Write(b, make([]byte, n)))
		}
		refused(t, "nil", api.ErrArg, w.Write(b, nil), w.Write(b, make([]byte, 0, 256)))
	}
	m.tells(t, "behind wrong ones", d, h, w)
	same(t, "behind wrong ones", d, was)
	well(t, m.commits(t, "behind wrong ones", d, h, w))
}

// P13.4, P13.7: what was written last is read, block by block, and nobody else sees it.
func TestReadAndWrite(t *testing.T) {
	g := roomy(5)
	d := from(t, g.image())
	was := d.Copy()
	h := g.heap(t, d, 0, 2, 4)
	w := begun(t, h)
	m := modelOf(g, g.image(), 0, 2, 4)
	for _, a := range []act{
		take(), write(1, filled('a')), write(2, filled('b')), write(1, filled('c')), write(2, rising(256)), write(0, zeros(256)),
		take(), write(4, filled('d')), give(1), take(), write(3, filled('e')), give(0), write(0, filled('f')), give(4), write(4, filled('g')),
	} {
		a.does(t, "one by one", w, m)
		m.tells(t, a.name, d, h, w)
		same(t, a.name, d, was)
	}
	// A block that was written, given back and taken again may hold anything; it is what was written.
	if b, e := w.Read(1); string(b) != filled('c') || e != api.OK {
		t.Errorf("Read(1) = % x, %d", b, e)
	}
	well(t, m.commits(t, "one by one", d, h, w))
}

// P13.4: all numbers that a root may be, with the lowest byte first, put in by Store: the bytes behind it stay.
func TestRoot(t *testing.T) {
	g := roomy(1)
	d := from(t, g.image())
	h := g.heap(t, d)
	roots := []uint64{0, 1, 255, 256, 258, math.MaxUint32, math.MaxUint32 + 1, math.MaxInt64, 1 << 63, math.MaxUint64, 0x0102030405060708}
	for i := range 64 {
		roots = append(roots, 1<<i)
	}
	for _, v := range roots {
		w := begun(t, h)
		m := modelOf(g, string(d.Image()))
		m.tells(t, "as it was", d, h, w)
		setRoot(v).does(t, "root", w, m)
		if got, e := w.Root(); got != v || e != api.OK {
			t.Fatalf("Root = %d, %d; not %d", got, e, v)
		}
		setRoot(v^77).does(t, "root", w, m)
		setRoot(v).does(t, "root", w, m)
		m.tells(t, fmt.Sprint("root ", v), d, h, w)
		well(t, m.commits(t, fmt.Sprint("root ", v), d, h, w))
		if b := string(d.Image()); b[64:72] != word(v) || b[:64] != g.image()[:64] || b[72:128] != g.image()[72:128] || b[g.at:] != g.image()[g.at:] {
			t.Fatalf("root %d: % x", v, b[:128])
		}
		w = begun(t, h)
		well(t, w.SetRoot(v+1), w.Drop())
		if b, _ := d.Load(64, 8); string(b) != word(v) {
			t.Fatalf("dropped: the root is % x", b)
		}
	}
}

// P13.5: how many blocks there are, whatever a work took, also when it is over and while the device is off.
func TestBlocks(t *testing.T) {
	for _, n := range []int{0, 1, 8} {
		g := ground{128, 128, 256, n}
		d := from(t, over(rising(2368), 128, zeros(8)))
		h := g.heap(t, d)
		w := begun(t, h)
		w.Take()
		well(t, d.Crash())
		if got := w.Blocks(); got != n {
			t.Errorf("Blocks = %d, not %d", got, n)
		}
		well(t, w.Drop())
		ended(t, "dropped", w, n)
	}
}

// P13.1, P13.4: a heap of no blocks: nothing to take, to give, to read; its root is there.
func TestNoBlocks(t *testing.T) {
	for _, size := range []int{320, 512} {
		g := ground{128, 192, 320, 0}
		d := from(t, over(rising(size), 128, zeros(8)))
		h := g.heap(t, d)
		w := begun(t, h)
		m := modelOf(g, string(d.Image()))
		for _, a := range []act{take(), take(), give(0), write(0, filled(1)), write(0, ""), setRoot(9)} {
			a.does(t, "no blocks", w, m)
		}
		m.tells(t, "no blocks", d, h, w)
		well(t, m.commits(t, "no blocks", d, h, w))
	}
}

// P13.1, P13.4: heaps that end where the pool ends, and those that do not: their first and last blocks are the bytes that they are, and no others are touched.
func TestWhereBlocksLie(t *testing.T) {
	for _, g := range []ground{{128, 640, 768, 3}, {128, 640, 832, 3}, {1024, 640, 128, 3}, {1024, 640, 192, 3}, {64, 640, 768, 2}} {
		for _, size := range []int{g.size(), 1728, 2048} {
			if size < g.size() || size < g.logAt+g.logSize {
				continue
			}
			for _, live := range subsets(g.n) {
				d := from(t, over(rising(size), g.logAt, zeros(8)))
				h := g.heap(t, d, live...)
				w := begun(t, h)
				m := modelOf(g, string(d.Image()), live...)
				for range g.n - len(live) {
					take().does(t, "lies", w, m)
				}
				for _, b := range []int{0, g.n - 1} {
					write(b, filled(byte(b+7))).does(t, "lies", w, m)
				}
				m.tells(t, "lies", d, h, w)
				well(t, m.commits(t, fmt.Sprint(g, ", live ", live), d, h, w))
				image := string(d.Image())
				want := m.changed()
				log := image[g.logAt : g.logAt+g.logSize]
				if image != over(want, g.logAt, log) {
					t.Fatalf("%v, live %v: other bytes were changed", g, live)
				}
			}
		}
	}
}

// calls is what is asked of a work and may answer ErrOff, with right arguments and wrong ones; beside an error nothing else is told.
func calls() map[string]func(w *blocks.Work) api.Errno {
	l := map[string]func(w *blocks.Work) api.Errno{
		"Commit": (*blocks.Work).Commit,
		"SetRoot": func(w *blocks.Work) api.Errno {
			return w.SetRoot(3)
		},
		"Take": func(w *blocks.Work) api.Errno {
			b, e := w.Take()
			if e != api.OK && b != 0 {
				return api.Errno(-1)
			}
			return e
		},
		"Root": func(w *blocks.Work) api.Errno {
			v, e := w.Root()
			if e != api.OK && v != 0 {
				return api.Errno(-1)
			}
			return e
		},
	}
	for _, b := range []int{0, 1, 2, 7, 8, -1, math.MaxInt, math.MinInt} {
		l[fmt.Sprint("Read ", b)] = func(w *blocks.Work) api.Errno {
			data, e := w.Read(b)
			if e != api.OK && len(data) != 0 {
				return api.Errno(-1)
			}
			return e
		}
		l[fmt.Sprint("Give ", b)] = func(w *blocks.Work) api.Errno { return w.Give(b) }
		l[fmt.Sprint("Write ", b)] = func(w *blocks.Work) api.Errno { return w.Write(b, make([]byte, 256)) }
		l[fmt.Sprint("Write none ", b)] = func(w *blocks.Work) api.Errno { return w.Write(b, nil) }
	}
	return l
}

// P13.4 to P13.6: while the device is off each call answers ErrOff, ahead of wrong arguments; the work is over then, for good, and its transaction too: another one can be begun. What is live stays so. Up to there what is taken and given is told.
func TestOffEndsIt(t *testing.T) {
	g := roomy(8)
	for name, ask := range calls() {
		d := from(t, g.image())
		h := g.heap(t, d, 1, 2)
		w := begun(t, h)
		m := modelOf(g, g.image(), 1, 2)
		for _, a := range []act{take(), take(), give(1), write(0, filled(3)), write(2, filled(4)), setRoot(5)} {
			a.does(t, name, w, m)
		}
		well(t, d.Crash())
		was := d.Copy()
		if !slices.Equal(w.Taken(), []int{0, 3}) || !slices.Equal(w.Given(), []int{1}) {
			t.Fatalf("%s, off: taken %v, given %v", name, w.Taken(), w.Given())
		}
		refused(t, name, api.ErrOff, ask(w))
		ended(t, name+", off", w, 8)
		refused(t, name+", once more", api.ErrState, ask(w))
		refused(t, name+", Begin", api.ErrOff, second(h.Begin()))
		lives(t, name, h, 8, 1, 2)
		same(t, name, d, was)
		well(t, d.Wake())
		ended(t, name+", on again", w, 8)
		next := begun(t, h)
		ended(t, name+", another one open", w, 8)
		modelOf(g, g.image(), 1, 2).tells(t, name+", another one", d, h, next)
		well(t, next.Drop())
	}
}

// P13.4: each call of a work goes on as before, if the power was gone and is back, and the work was not asked meanwhile.
func TestOffAndOnAgain(t *testing.T) {
	g := roomy(8)
	d := from(t, g.image())
	h := g.heap(t, d, 1, 2)
	w := begun(t, h)
	m := modelOf(g, g.image(), 1, 2)
	for _, a := range []act{take(), take(), give(1), write(0, filled(3)), write(2, filled(4)), setRoot(5), take(), give(3)} {
		a.does(t, "on", w, m)
		well(t, d.Crash())
		refused(t, "off", api.ErrOff, second(h.Begin()))
		refused(t, "off", api.ErrState, h.Load(nil))
		if !slices.Equal(w.Taken(), numbers(m.taken)) || !slices.Equal(w.Given(), numbers(m.given)) {
			t.Fatalf("off: taken %v, given %v", w.Taken(), w.Given())
		}
		lives(t, "off", h, 8, 1, 2)
		well(t, d.Wake())
		refused(t, "on again", api.ErrState, second(h.Begin()))
		m.tells(t, a.name, d, h, w)
	}
	well(t, m.commits(t, "on again", d, h, w))
}

// P13.6: behind Drop all is as it was, whatever was done, also where lines have several contents, and while the device is off; the next work knows nothing of it.
func TestDrop(t *testing.T) {
	g := roomy(8)
	d := from(t, g.image())
	well(t, d.Store8(64, 1), d.Flush(64), d.Store8(1344, 2), d.Flush(1344), d.Store8(1352, 3))
	h := g.heap(t, d, 1, 4, 6)
	r := rand.New(rand.NewPCG(13, 6))
	for round := range 400 {
		name := fmt.Sprint("round ", round)
		w := begun(t, h)
		m := modelOf(g, string(d.Image()), 1, 4, 6)
		m.tells(t, name, d, h, w)
		was := d.Copy()
		for range r.IntN(12) {
			anyAct(r, m).does(t, name, w, m)
		}
		off := round >= 200 && round%2 == 0
		if off {
			well(t, d.Crash(1, 1), was.Crash(1, 1))
		}
		well(t, w.Drop())
		ended(t, name, w, 8)
		lives(t, name, h, 8, 1, 4, 6)
		same(t, name, d, was)
		if off {
			well(t, d.Wake())
		}
	}
}

// anyAct is one that often goes well.
func anyAct(r *rand.Rand, m *model) act {
	b := r.IntN(m.n+2) - 1
	switch r.IntN(8) {
	case 0, 1:
		return take()
	case 2:
		return give(b)
	case 3:
		return setRoot(r.Uint64())
	case 4:
		return write(b, rising(256)[:r.IntN(257)])
	}
	if use := m.inUse(); len(use) > 0 {
		b = use[r.IntN(len(use))]
	}
	data := []byte(rising(256))
	for range r.IntN(6) {
		data[r.IntN(256)] = byte(r.Uint32())
	}
	return write(b, string(data))
}

// P13.4, P13.6: one that is over says nothing of the one that is open, and can't end it.
func TestOneThatIsOverEndsNoOther(t *testing.T) {
	g := roomy(4)
	d := from(t, g.image())
	h := g.heap(t, d, 0)
	var old []*blocks.Work
	for i := range 3 {
		w := begun(t, h)
		taken(t, w)
		switch i {
		case 0:
			well(t, w.Drop())
		case 1:
			well(t, d.Crash())
			refused(t, "off", api.ErrOff, w.Give(0))
			well(t, d.Wake())
		case 2:
			well(t, w.Give(1), w.Commit())
		}
		old = append(old, w)
	}
	w := begun(t, h)
	m := modelOf(g, g.image(), 0)
	for _, a := range []act{take(), take(), give(0), write(1, filled(8)), setRoot(4)} {
		a.does(t, "the new one", w, m)
		for i, x := range old {
			ended(t, fmt.Sprint("old one ", i), x, 4)
		}
		m.tells(t, "the new one", d, h, w)
	}
	well(t, d.Crash())
	for i, x := range old {
		ended(t, fmt.Sprint("old one ", i, ", off"), x, 4)
	}
	well(t, d.Wake())
	m.tells(t, "the new one", d, h, w)
	refused(t, "Begin", api.ErrState, second(h.Begin()))
	well(t, m.commits(t, "the new one", d, h, w))
}

// R1: all blocks of the greatest device are taken, given back by rising and falling numbers, taken again, written and committed; then given.
func TestTheGreatestDevice(t *testing.T) {
	const n = (api.MaxSize - api.HeapAt) / 256
	g := ground{api.LogAt, api.LogSize, api.HeapAt, n}
	d := from(t, zeros(api.MaxSize))
	h := g.heap(t, d, n-1, 0)
	w := begun(t, h)
	all := func() {
		for b := 1; b < n-1; b++ {
			if got := taken(t, w); got != b {
				t.Fatalf("Take = %d, not %d", got, b)
			}
		}
		refused(t, "all taken", api.ErrSpace, second(w.Take()))
	}
	all()
	for b := 1; b < n-1; b++ {
		well(t, w.Give(b))
	}
	all()
	for b := n - 2; b > 0; b-- {
		well(t, w.Give(b))
	}
	all()
	for b := 1; b < n-1; b += 100 {
		well(t, w.Write(b, []byte(filled(byte(b)))))
	}
	well(t, w.Write(0, []byte(filled(1))), w.Write(n-1, []byte(filled(2))), w.SetRoot(n), w.Commit())
	if r := h.Room(); r != (api.Room{Blocks: n, Live: n}) {
		t.Fatalf("%v", r)
	}
	for i, b := range h.Lives() {
		if b != i {
			t.Fatalf("live number %d is %d", i, b)
		}
	}
	w = begun(t, h)
	refused(t, "all live", api.ErrSpace, second(w.Take()))
	for b := range n {
		want := zeros(256)
		switch {
		case b == 0:
			want = filled(1)
		case b == n-1:
			want = filled(2)
		case b%100 == 1:
			want = filled(byte(b))
		}
		if data, e := w.Read(b); string(data) != want || e != api.OK {
			t.Fatalf("Read(%d) = % x, %d", b, data, e)
		}
		well(t, w.Give(b))
	}
	refused(t, "all given", api.ErrSpace, second(w.Take()))
	well(t, w.Commit())
	lives(t, "all given", h, n)
	if b := taken(t, begun(t, h)); b != 0 {
		t.Errorf("Take = %d", b)
	}
}
