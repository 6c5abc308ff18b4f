package blocks_test

import (
	"fmt"
	"math/rand/v2"
	"slices"
	"strings"
	"testing"

	"vellum/api"
	"vellum/blocks"
	"vellum/pmem"
	"vellum/txn"
)

// rows is works of all kinds on eight blocks, of which 0, 1, 3 and 6 are live.
func rows() [][]act {
	return [][]act{
		nil,
		{take()},
		{give(1)},
		{take(), give(2)},
		{take(), take(), give(2), take()},
		{setRoot(7)},
		{take(), write(2, filled(7))},
		{take(), write(2, filled(7)), setRoot(3)},
		{take(), write(2, filled(7)), give(2), setRoot(3)},
		{take(), write(2, filled(7)), give(2), take()},
		{take(), write(2, filled(7)), give(2), take(), write(2, filled(8))},
		{write(0, filled(7))},
		{write(0, filled(7)), write(0, filled(8))},
		{write(0, filled(7)), give(0)},
		{write(0, filled(7)), write(1, filled(8)), setRoot(1)},
		{write(0, filled(7)), write(3, filled(8)), write(6, filled(9)), setRoot(1)},
		{take(), take(), take(), write(5, filled(7)), write(2, filled(8)), write(4, filled(9))},
		{take(), take(), write(2, filled(7)), write(3, filled(8)), write(4, filled(9)), setRoot(5)},
		{take(), take(), take(), take(), take(), write(7, filled(7)), give(0), give(1), give(3), give(6), setRoot(0)},
		{give(0), give(1), give(3), give(6), take(), write(2, rising(256)), setRoot(3)},
		{write(0, filled(7)), write(1, filled(8)), write(3, filled(9)), write(6, filled(10)), setRoot(1)},
	}
}

// busy is devices of a ground: whose lines have one content; several; of which some are flushed, all of them or as they were ahead of a store.
func busy(t *testing.T, g ground) map[string]*pmem.Device {
	t.Helper()
	clean := from(t, g.image())
	stored := clean.Copy()
	for _, at := range []int{64, 136, 200, g.place(0), g.place(1) + 64, g.place(2), g.place(3) - 8, g.size() - 8} {
		well(t, stored.Store8(at, uint64(at)))
	}
	flushed := stored.Copy()
	for at := 0; at < g.size(); at += 64 {
		well(t, flushed.Flush(at))
	}
	ahead := flushed.Copy()
	for _, at := range []int{72, 144, 208, g.place(0) + 8, g.place(2) + 8, g.place(6)} {
		well(t, ahead.Store8(at, 1))
	}
	return map[string]*pmem.Device{"clean": clean, "stored": stored, "flushed": flushed, "flushed ahead of stores": ahead}
}

// P13.4, P13.6, P13.7: what works of all kinds do to a device, operation by operation, and what is live and in the blocks behind them; on devices whose lines have one content and several.
func TestCommit(t *testing.T) {
	for _, g := range []ground{roomy(8), {128, 1280, 1408, 8}} {
		for name, clean := range busy(t, g) {
			for _, row := range rows() {
				name := name + ", " + named(row)
				d := clean.Copy()
				h := g.heap(t, d, 0, 1, 3, 6)
				w := begun(t, h)
				m := modelOf(g, string(d.Image()), 0, 1, 3, 6)
				for _, a := range row {
					a.does(t, name, w, m)
				}
				m.tells(t, name, d, h, w)
				well(t, m.commits(t, name, d, h, w))
			}
		}
	}
}

// P13.4, P13.6: the operations, as they are told by hand: blocks that were taken are written first, and are not in the log; of live ones and the root all bytes are, those that touch in one record.
func TestOperationsByHand(t *testing.T) {
	g := ground{128, 704, 832, 8}
	d := from(t, zeros(g.size()))
	h := g.heap(t, d, 0, 1, 3)
	w := begun(t, h)
	well(t, second(w.Take()), second(w.Take()))
	well(t, w.Write(4, []byte(filled(4))), w.Write(1, []byte(filled(1))), w.SetRoot(5), w.Write(0, []byte(filled(9))), w.Give(3))
	want := d.Copy()
	well(t, want.Store(1856, []byte(filled(4))), want.Flush(1856), want.Flush(1920), want.Flush(1984), want.Flush(2048),
		g.log(t, want).Write(api.Extent{At: 64, Len: 8}, api.Extent{At: 832, Len: 512}),
		want.Store(64, []byte(word(5))), want.Store(832, []byte(filled(9))), want.Store(1088, []byte(filled(1))), want.Flush(64))
	for at := 832; at < 1344; at += 64 {
		well(t, want.Flush(at))
	}
	well(t, want.Fence(), want.Store8(128, 0), want.Flush(128), want.Fence())
	well(t, w.Commit())
	same(t, "by hand", d, want)
	lives(t, "by hand", h, 8, 0, 1, 2, 4)
}

// P13.6: the operations that the tests hold a Commit against, one by one.
func TestOperationsOfTheModel(t *testing.T) {
	g := ground{128, 448, 576, 2}
	for _, x := range []struct {
		row  []act
		want string
	}{
		{nil, ""},
		{[]act{take(), give(0)}, ""},
		{[]act{take(), write(1, filled(7))}, "32 from Store 832 07 07 07 07 07 07 07 07 to Store 1080 07 07 07 07 07 07 07 07; Flush 832; Flush 896; Flush 960; Flush 1024; Fence"},
		{[]act{setRoot(258)}, "4 from Store 192 40 00 00 00 00 00 00 00 to Store 216 00 00 00 00 00 00 00 00; Flush 192; Fence; 1 from Store 128 01 00 00 00 00 00 00 00 to Store 128 01 00 00 00 00 00 00 00; Flush 128; Fence; " +
			"1 from Store 64 02 01 00 00 00 00 00 00 to Store 64 02 01 00 00 00 00 00 00; Flush 64; Fence; 1 from Store 128 00 00 00 00 00 00 00 00 to Store 128 00 00 00 00 00 00 00 00; Flush 128; Fence"},
	} {
		m := modelOf(g, zeros(g.size()), 0)
		for _, a := range x.row {
			a.on(m)
		}
		ops, _ := m.committing()
		if got := rowsOfStores(ops); got != x.want {
			t.Errorf("%s: %s; not %s", named(x.row), got, x.want)
		}
	}
}

// rowsOfStores is the names of operations, each row of stores told by its first and its last one.
func rowsOfStores(ops []op) string {
	var names []string
	for i := 0; i < len(ops); i++ {
		from := i
		for i < len(ops) && strings.HasPrefix(ops[i].name, "Store") {
			i++
		}
		if i > from {
			names = append(names, fmt.Sprint(i-from, " from ", ops[from].name, " to ", ops[i-1].name))
		}
		if i < len(ops) {
			names = append(names, ops[i].name)
		}
	}
	return strings.Join(names, "; ")
}

// P13.6: just as many blocks as the log takes, and one more: ErrFull; then the transaction is dropped, all that is live is as it was, and of the device's bytes none but those of blocks that were taken have changed; the next work goes well.
func TestALogThatIsFull(t *testing.T) {
	g := roomy(12)
	live := []int{0, 2, 4, 6, 8, 10}
	for count := range 6 {
		for _, root := range []bool{false, true} {
			for _, fresh := range []bool{false, true} {
				name := fmt.Sprint(count, " blocks, the root ", root, ", fresh ones ", fresh)
				d := from(t, g.image())
				h := g.heap(t, d, live...)
				w := begun(t, h)
				m := modelOf(g, g.image(), live...)
				row := []act{take(), give(10)}
				for i := range count {
					row = append(row, write(2*i, filled(byte(i+1))))
				}
				if root {
					row = append(row, setRoot(99))
				}
				if fresh {
					row = append(row, write(1, filled(77)))
				}
				for _, a := range row {
					a.does(t, name, w, m)
				}
				want := api.OK
				if count == 5 {
					want = api.ErrFull
				}
				refused(t, name, want, m.commits(t, name, d, h, w))
				if want == api.OK {
					continue
				}
				image := g.image()
				if fresh {
					image = over(image, g.place(1), filled(77))
				}
				if string(d.Image()) != image {
					t.Fatalf("%s: other bytes have changed", name)
				}
				// The block that was taken is free again, and the one that was given is live.
				again(t, name, g, d, h, live)
			}
		}
	}
	// Blocks that touch have one record: so one more goes in.
	d := from(t, ground{128, 1216, 1344, 5}.image())
	g.n = 5
	h := g.heap(t, d, 0, 1, 2, 3, 4)
	w := begun(t, h)
	m := modelOf(g, string(d.Image()), 0, 1, 2, 3)
	for b := range 4 {
		write(b, filled(byte(b+5))).does(t, "a row of blocks", w, m)
	}
	setRoot(1).does(t, "a row of blocks", w, m)
	ops, code := m.committing()
	want := d.Copy()
	for _, o := range ops {
		well(t, o.do(want))
	}
	well(t, code, w.Commit())
	same(t, "a row of blocks", d, want)
}

// again makes a work that goes well behind one that was refused, and loses the power then: what is live has what the work had.
func again(t *testing.T, name string, g ground, d *pmem.Device, h *blocks.Heap, live []int) {
	t.Helper()
	w := begun(t, h)
	m := modelOf(g, string(d.Image()), live...)
	for _, a := range []act{take(), write(1, rising(256)), write(live[0], filled(3)), give(live[1]), setRoot(2)} {
		a.does(t, name+", again", w, m)
	}
	well(t, m.commits(t, name+", again", d, h, w), d.Crash(), d.Wake())
	image := string(d.Image())
	for _, b := range m.inUse() {
		if g.block(image, b) != g.block(m.changed(), b) {
			t.Fatalf("%s, again: block %d is lost", name, b)
		}
	}
}

// P13.6: other errors of the transaction's Commit: records behind Begin, blocks and a root where the log lies: the work is over, the transaction dropped, what is live stays so; what is done to the device is what the transaction does.
func TestOtherRefusedCommits(t *testing.T) {
	for name, x := range map[string]struct {
		g     ground
		want  api.Errno
		spoil func(t *testing.T, g ground, d *pmem.Device)
	}{
		"records behind Begin": {roomy(4), api.ErrState, func(t *testing.T, g ground, d *pmem.Device) {
			well(t, g.log(t, d).Write(api.Extent{At: g.place(3), Len: 4}))
		}},
		"a root in the log":  {ground{64, 704, 768, 4}, api.ErrRange, nil},
		"blocks in the log":  {ground{1024, 640, 640, 4}, api.ErrRange, nil},
		"blocks at the log":  {ground{1024, 640, 512, 4}, api.ErrRange, nil},
		"the log's own line": {ground{192, 640, 128, 4}, api.ErrRange, nil},
	} {
		d := from(t, over(rising(max(x.g.size(), x.g.logAt+x.g.logSize)), x.g.logAt, zeros(8)))
		want := d.Copy()
		p := x.g.pool(t, d)
		h, e := blocks.New(p, x.g.at, x.g.n)
		well(t, e, h.Load([]int{0, 2}))
		w := begun(t, h)
		byHand, e := x.g.pool(t, want).Begin()
		data := []byte(filled(0))
		well(t, e, second(w.Take()), w.Give(0), w.Write(1, data), w.Write(2, data), w.SetRoot(6))
		well(t, byHand.Fresh(x.g.place(1), data), byHand.Store(x.g.place(2), data), byHand.Store(64, []byte(word(6))))
		if x.spoil != nil {
			x.spoil(t, x.g, d)
			x.spoil(t, x.g, want)
		}
		refused(t, name, x.want, byHand.Commit())
		refused(t, name, x.want, w.Commit())
		same(t, name, d, want)
		ended(t, name, w, 4)
		lives(t, name, h, 4, 0, 2)
		well(t, h.Load([]int{0, 2}), x.g.log(t, d).Clear())
		well(t, second(p.Begin()))
	}
}

// P13.7: long rows of works on one heap, committed, refused and dropped, each against the model; at last the power goes.
func TestLongRowsOfWorks(t *testing.T) {
	r := rand.New(rand.NewPCG(13, 7))
	codes := map[api.Errno]int{}
	for range 20 {
		g := roomy(3 + r.IntN(9))
		d := from(t, g.image())
		h := g.heap(t, d)
		var live []int
		for round := range 60 {
			name := fmt.Sprint("round ", round, " on ", g.n)
			w := begun(t, h)
			m := modelOf(g, string(d.Image()), live...)
			for range r.IntN(16) {
				anyAct(r, m).does(t, name, w, m)
			}
			m.tells(t, name, d, h, w)
			if r.IntN(5) == 0 {
				was := d.Copy()
				well(t, w.Drop())
				same(t, name, d, was)
				lives(t, name, h, g.n, live...)
				continue
			}
			code := m.commits(t, name, d, h, w)
			codes[code]++
			if code == api.OK {
				live = m.inUse()
			}
		}
		image := string(d.Image())
		well(t, d.Crash(), d.Wake())
		for _, b := range live {
			if now := string(d.Image()); g.block(now, b) != g.block(image, b) || now[64:72] != image[64:72] {
				t.Fatalf("block %d or the root is lost", b)
			}
		}
	}
	if codes[api.OK] < 500 || codes[api.ErrFull] < 20 {
		t.Errorf("too few of a kind: %v", codes)
	}
}

// P13.7: a block that was given by a work that was committed is taken by the next one, and by none ahead of it.
func TestGivenIsFreeBehindTheCommit(t *testing.T) {
	g := roomy(4)
	d := from(t, g.image())
	h := g.heap(t, d, 0, 1, 2)
	w := begun(t, h)
	well(t, w.Give(1))
	if b := taken(t, w); b != 3 {
		t.Fatalf("Take = %d", b)
	}
	refused(t, "given", api.ErrSpace, second(w.Take()))
	well(t, w.Commit())
	lives(t, "committed", h, 4, 0, 2, 3)
	w = begun(t, h)
	if b := taken(t, w); b != 1 {
		t.Fatalf("Take = %d", b)
	}
	refused(t, "all in use", api.ErrSpace, second(w.Take()))
	well(t, w.Write(1, []byte(filled(1))), w.Commit())
	lives(t, "committed", h, 4, 0, 1, 2, 3)
}

// P13.6: the power goes behind each operation of a Commit: ErrOff, the work is over, what is live stays so as the heap tells it; the transaction is over, too.
func TestACommitThatIsCutOff(t *testing.T) {
	g := roomy(8)
	for _, row := range rows() {
		m := modelOf(g, g.image(), 0, 1, 3, 6)
		for _, a := range row {
			a.on(m)
		}
		ops, _ := m.committing()
		for after := 1; after <= len(ops)+1; after++ {
			name := fmt.Sprint(named(row), "cut off behind ", after)
			d := from(t, g.image())
			p := g.pool(t, d)
			h, e := blocks.New(p, g.at, g.n)
			well(t, e, h.Load([]int{6, 3, 1, 0}))
			w := begun(t, h)
			for _, a := range row {
				a.do(w)
			}
			well(t, d.Arm(api.Arm{After: after}))
			if after > len(ops) {
				well(t, w.Commit())
				lives(t, name, h, 8, m.inUse()...)
				continue
			}
			refused(t, name, api.ErrOff, w.Commit())
			if d.Ops() != after {
				t.Fatalf("%s: %d operations", name, d.Ops())
			}
			ended(t, name, w, 8)
			lives(t, name, h, 8, 0, 1, 3, 6)
			refused(t, name, api.ErrOff, second(h.Begin()))
			well(t, d.Wake())
			ended(t, name+", on again", w, 8)
			// Not ErrState: no transaction is open any more.
			well(t, second(p.Recover()))
			well(t, second(p.Begin()))
		}
	}
}

// P13.1 to P13.6, R1: a pool whose log is on another device: calls end.
func TestALogOfAnotherDevice(t *testing.T) {
	g := the()
	for _, size := range []int{320, 2368, 4096} {
		for _, off := range []bool{false, true} {
			for _, image := range []string{over(rising(size), 128, zeros(8)), rising(size)} {
				d, other := from(t, g.image()), from(t, image)
				if off {
					well(t, other.Crash())
				}
				p, e := txn.New(d, g.log(t, other))
				well(t, e)
				h, e := blocks.New(p, 320, 8)
				well(t, e, h.Load([]int{0, 5}))
				w, e := h.Begin()
				if e != api.OK {
					continue
				}
				well(t, second(w.Take()), w.Give(5), w.Write(1, make([]byte, 256)), w.SetRoot(1), other.Arm(api.Arm{After: 2}))
				w.Commit()
				ended(t, "another device", w, 8)
				if l := h.Lives(); !slices.Equal(l, []int{0, 5}) && !slices.Equal(l, []int{0, 1}) {
					t.Errorf("live are %v", l)
				}
			}
		}
	}
}
