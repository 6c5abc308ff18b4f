package blocks_test

import (
	"bytes"
	"fmt"
	"maps"
	"math/rand/v2"
	"slices"
	"testing"

	"vellum/api"
	"vellum/blocks"
	"vellum/pmem"
)

// keeps is each choice of what lines keep; of contents of a line that are like each other the first one stands for all.
func keeps(d *pmem.Device) [][]int {
	l := [][]int{{}}
	for line := range d.Size() / 64 {
		var unlike []int
		contents := d.Contents(line)
		for k, c := range contents {
			if !slices.ContainsFunc(unlike, func(i int) bool { return bytes.Equal(contents[i], c) }) {
				unlike = append(unlike, k)
			}
		}
		var longer [][]int
		for _, keep := range l {
			for _, k := range unlike {
				longer = append(longer, append(keep[:len(keep):len(keep)], k))
			}
		}
		l = longer
	}
	return l
}

// cutOff lets the power go behind each of these operations, which a call comes to, with each choice of what lines keep: it answers ErrOff, and has done the operations up to there alone. What is left is handed on, the power being back.
func cutOff(t *testing.T, name string, d *pmem.Device, ops []op, call func(name string, d *pmem.Device) api.Errno, then func(name string, left *pmem.Device)) {
	t.Helper()
	stopped := d.Copy()
	for i, o := range ops {
		well(t, o.do(stopped))
		for _, keep := range keeps(stopped) {
			got, want := d.Copy(), stopped.Copy()
			well(t, got.Arm(api.Arm{After: i + 1, Keep: keep}), want.Crash(keep...))
			at := fmt.Sprintf("%s, the power going behind operation %d (%s), lines keeping %v", name, i+1, o.name, keep)
			if e := call(at, got); e != api.ErrOff {
				t.Fatalf("%s: %d", at, e)
			}
			// Behind a loss of power each line has one content: so the images tell all of them.
			if got.Ops() != want.Ops() || !got.Off() || !bytes.Equal(got.Image(), want.Image()) {
				t.Fatalf("%s: %d operations, not %d, off %v, % x", at, got.Ops(), want.Ops(), got.Off(), got.Image())
			}
			well(t, got.Wake())
			then(at, got)
		}
	}
}

// scene is a device all of whose lines have one content, with a log without records, live blocks, and a work on them.
type scene struct {
	name string
	ground
	image string
	live  []int
	row   []act
}

// model is the work of a scene.
func (s scene) model() *model {
	m := modelOf(s.ground, s.image, s.live...)
	for _, a := range s.row {
		a.on(m)
	}
	return m
}

// sparse is a block of bytes 0 but for some words: so a line has few contents that are unlike.
func sparse(v byte, words ...int) string {
	b := zeros(256)
	for _, i := range words {
		b = over(b, 8*i, word(0x0101010101010101*uint64(v)+uint64(i)))
	}
	return b
}

// sown is an image whose blocks are sparse, each in other words, with a root.
func (g ground) sown() string {
	image := zeros(max(g.size(), g.logAt+g.logSize))
	for b := range g.n {
		image = over(image, g.place(b), sparse(byte(0x10+b), b, 8+b, 31))
	}
	return over(image, 64, word(0x55))
}

// scenes is small ones.
func scenes() []scene {
	g := ground{128, 384, 512, 4}
	behind := ground{1152, 384, 128, 4}
	l := []scene{
		{"the root alone", g, "", nil, []act{setRoot(3)}},
		{"the root, no blocks", ground{128, 128, 256, 0}, "", nil, []act{setRoot(3)}},
		{"a block that is taken, and the root", g, "", []int{0}, []act{take(), write(1, sparse(1, 0, 3, 9, 17, 30)), setRoot(2)}},
		{"a block that is taken, and no root", g, "", []int{0}, []act{take(), write(1, sparse(1, 0, 3, 9, 17, 30))}},
		{"a block that is taken and not written", g, "", []int{0}, []act{take(), setRoot(2)}},
		{"a live block", g, "", []int{0, 1}, []act{write(1, sparse(1, 0, 9, 17))}},
		{"a live block, and the root", g, "", []int{2}, []act{write(2, sparse(1, 0, 1, 2, 3)), setRoot(7)}},
		{"a live block and one that is taken", g, "", []int{0, 2}, []act{take(), write(0, sparse(1, 0, 8)), write(1, sparse(2, 4, 13)), setRoot(2)}},
		{"one for another", g, "", []int{1}, []act{take(), write(0, sparse(1, 2, 3)), give(1), setRoot(1)}},
		{"a live block that is written and given", g, "", []int{0, 1}, []act{write(0, sparse(1, 0, 8)), give(0), setRoot(4)}},
		{"a live block that is given, and no more", g, "", []int{0, 1}, []act{give(1)}},
		{"a block that is taken, given back and taken again", g, "", []int{0}, []act{take(), write(1, sparse(1, 0, 3)), give(1), take(), write(1, sparse(2, 0, 3)), setRoot(2)}},
		{"a block that is taken and given back", g, "", []int{0}, []act{take(), write(1, sparse(1, 0, 3)), give(1), write(0, sparse(2, 9))}},
		{"two that are taken", g, "", []int{1}, []act{take(), take(), write(2, sparse(1, 1, 12)), write(0, sparse(2, 30)), setRoot(1)}},
		{"a heap ahead of the log", behind, "", []int{0, 3}, []act{take(), write(1, sparse(1, 1, 12)), write(3, sparse(2, 31)), give(0), setRoot(2)}},
		{"the same bytes", g, "", []int{0}, []act{take(), write(0, sparse(0x10, 0, 8, 31)), write(1, sparse(0x11, 1, 9, 31)), setRoot(0x55)}},
		{"a log that is too small", ground{128, 128, 256, 4}, "", []int{0, 3}, []act{take(), write(1, sparse(1, 0, 9, 18)), write(3, sparse(2, 5)), setRoot(2)}},
		{"fresh ones and a log that is too small", ground{128, 320, 448, 4}, "", []int{0, 3}, []act{take(), write(1, sparse(1, 0, 9, 18)), write(0, sparse(2, 5)), write(3, sparse(2, 5)), give(0)}},
	}
	for i := range l {
		l[i].image = l[i].sown()
	}
	// What another Commit has left in the log is nothing to this one.
	used := l[7]
	used.name += ", a log that was used"
	used.image = over(used.image, 192, record(512, sparse(9, 0, 8))+record(64, word(1)))
	return append(l, used)
}

// whole says which the root and the blocks of an image are: as they were at Begin, as far as they were live, or as the work had them, as far as they were in use; that they are one of the two is held.
func (s scene) whole(t *testing.T, name, image string) (was, is bool) {
	t.Helper()
	m := s.model()
	was, is = image[64:72] == s.image[64:72], image[64:72] == m.changed()[64:72]
	for _, b := range s.live {
		was = was && s.block(image, b) == s.block(s.image, b)
	}
	for _, b := range m.inUse() {
		is = is && s.block(image, b) == s.block(m.changed(), b)
	}
	if !was && !is {
		t.Fatalf("%s: the root and the blocks are neither what they were nor as the work had them: % x", name, image)
	}
	return was, is
}

// committed is a Commit of a scene's work; whatever it answers, the work is over; with an error what is live stays so.
func (s scene) committed(t *testing.T) func(name string, d *pmem.Device) api.Errno {
	return func(name string, d *pmem.Device) api.Errno {
		t.Helper()
		h := s.heap(t, d, s.live...)
		w := begun(t, h)
		ops := d.Ops()
		for _, a := range s.row {
			a.do(w)
		}
		if d.Ops() != ops {
			t.Fatalf("%s: %d operations ahead of Commit", name, d.Ops()-ops)
		}
		e := w.Commit()
		ended(t, name, w, s.n)
		if e != api.OK {
			lives(t, name, h, s.n, s.live...)
		}
		return e
	}
}

// recovers is a Recover by a new log and a new pool.
func (s scene) recovers(t *testing.T) func(name string, d *pmem.Device) api.Errno {
	return func(name string, d *pmem.Device) api.Errno {
		t.Helper()
		return second(s.pool(t, d).Recover())
	}
}

// settled makes a Recover that is not cut off: it answers OK, all is whole, and lasts; a heap that is made anew goes on from there.
func (s scene) settled(t *testing.T, name string, d *pmem.Device) (was, is bool) {
	t.Helper()
	d = d.Copy()
	refused(t, name+", Recover", api.OK, s.recovers(t)(name, d))
	for line := range d.Size() / 64 {
		if l := d.Contents(line); len(l) != 1 {
			t.Fatalf("%s, Recover: line %d has %d contents", name, line, len(l))
		}
	}
	was, is = s.whole(t, name, string(d.Image()))
	m := s.model()
	_, code := m.committing()
	if is {
		h := s.heap(t, d, m.inUse()...)
		w := begun(t, h)
		modelOf(s.ground, string(d.Image()), m.inUse()...).tells(t, name+", done", d, h, w)
		return was, is
	}
	refused(t, name+", again", code, s.committed(t)(name, d))
	if _, is := s.whole(t, name+", again", string(d.Image())); is != (code == api.OK) {
		t.Fatalf("%s: again, done %v", name, is)
	}
	return was, is
}

// P13.6, P13.8: the power goes behind each operation of a Commit, and of each Recover behind it, over and over, with each choice of what lines keep, until no new image comes about: a Recover that is not cut off always leaves the root and the live blocks as they were, or all as the work had it; each comes about, where the log takes the work.
func TestOverAndOver(t *testing.T) {
	for _, s := range scenes() {
		seen := map[string]bool{}
		old, now := 0, 0
		left := func(name string, d *pmem.Device) {
			if b := string(d.Image()); !seen[b] {
				seen[b] = true
				was, is := s.settled(t, name, d)
				if was {
					old++
				}
				if is {
					now++
				}
			}
		}
		m := s.model()
		ops, code := m.committing()
		cutOff(t, s.name, from(t, s.image), ops, s.committed(t), left)
		done := map[string]bool{}
		for again := true; again; {
			again = false
			for _, image := range slices.Sorted(maps.Keys(seen)) {
				if done[image] {
					continue
				}
				done[image], again = true, true
				cutOff(t, s.name, from(t, image), m.recovering(t, s.name, image), s.recovers(t), left)
			}
		}
		if len(ops) > 0 && (old == 0 || (now == 0) == (code == api.OK)) {
			t.Errorf("%s: of %d images nothing was done in %d, all in %d", s.name, len(seen), old, now)
		}
	}
}

// P13.8: a Commit that answered OK: root and blocks are as the work had them, whatever lines keep then; one that the log did not take: as they were.
func TestCommittedLasts(t *testing.T) {
	for _, s := range scenes() {
		d := from(t, s.image)
		_, code := s.model().committing()
		refused(t, s.name, code, s.committed(t)(s.name, d))
		for _, keep := range append(keeps(d), nil, slices.Repeat([]int{1}, 24), slices.Repeat([]int{7}, 24)) {
			lost := d.Copy()
			well(t, lost.Crash(keep...), lost.Wake(), s.recovers(t)(s.name, lost))
			was, is := s.whole(t, s.name, string(lost.Image()))
			if code == api.OK && !is || code != api.OK && !was {
				t.Fatalf("%s, lines keeping %v: done %v", s.name, keep, is)
			}
			if lost.Ops() != d.Ops() {
				t.Fatalf("%s: %d operations of Recover", s.name, lost.Ops()-d.Ops())
			}
		}
	}
}

// P13.8: blocks that have other bytes wherever they may, so that lines have as many contents as can be, with all lines keeping alike, and others by chance.
func TestFullBlocks(t *testing.T) {
	r := rand.New(rand.NewPCG(13, 8))
	g := ground{128, 64 + 32 + 280 + 280 + 48, 832, 5}
	s := scene{"full blocks", g, g.image(), []int{0, 2, 4}, []act{take(), take(), write(1, filled(1)), write(0, filled(2)), write(4, filled(3)), write(3, filled(4)), give(2), setRoot(1)}}
	ops, code := s.model().committing()
	well(t, code)
	old, now := 0, 0
	for after := 1; after <= len(ops); after++ {
		for k := range 24 {
			keep := slices.Repeat([]int{k}, g.size()/64)
			for i := range keep {
				if k >= 12 {
					keep[i] = r.IntN(60)
				}
			}
			d := from(t, s.image)
			well(t, d.Arm(api.Arm{After: after, Keep: keep}))
			refused(t, s.name, api.ErrOff, s.committed(t)(s.name, d))
			well(t, d.Wake())
			for l := s.model().recovering(t, s.name, string(d.Image())); len(l) > 0 && r.IntN(2) == 0; l = s.model().recovering(t, s.name, string(d.Image())) {
				well(t, d.Arm(api.Arm{After: 1 + r.IntN(len(l)), Keep: keep}))
				refused(t, s.name, api.ErrOff, s.recovers(t)(s.name, d))
				well(t, d.Wake())
			}
			was, is := s.settled(t, fmt.Sprint(s.name, ", behind ", after, ", keeping ", keep), d)
			if was {
				old++
			}
			if is {
				now++
			}
			// Up to the word that says that the records are not needed any more nothing is done; behind the last Fence all is.
			if after < len(ops)-2 && !was || after == len(ops) && !is {
				t.Fatalf("behind %d of %d, lines keeping %v: done %v", after, len(ops), keep, is)
			}
		}
	}
	if old < 1000 || now < 20 {
		t.Errorf("%d times nothing was done, %d times all", old, now)
	}
}

// P13.7, P13.8: long rows of works on one device, cut off anywhere, Recovers too, each behind a loss on a heap that is made anew: what is live is what the works ahead have left, and all or nothing of the one that was under way; no block is lost.
func TestLongRowsOfLosses(t *testing.T) {
	r := rand.New(rand.NewPCG(13, 80))
	cut, done, undone := 0, 0, 0
	for range 8 {
		g := roomy(4 + r.IntN(8))
		d := from(t, g.image())
		var live []int
		for round := range 120 {
			keep := make([]int, g.size()/64)
			for i := range keep {
				keep[i] = r.IntN(12)
			}
			h := g.heap(t, d, live...)
			w := begun(t, h)
			s := scene{fmt.Sprint("round ", round, " on ", g.n), g, string(d.Image()), live, nil}
			m := modelOf(g, s.image, live...)
			for range 1 + r.IntN(12) {
				a := anyAct(r, m)
				a.does(t, s.name, w, m)
				s.row = append(s.row, a)
			}
			// Each work has a root of its own, which tells whether it was done.
			root := setRoot(uint64(round)<<8 | 1)
			root.does(t, s.name, w, m)
			s.row = append(s.row, root)
			m.tells(t, s.name, d, h, w)
			ops, code := m.committing()
			if code == api.OK && r.IntN(4) > 0 {
				well(t, d.Arm(api.Arm{After: 1 + r.IntN(len(ops)), Keep: keep}))
				code = api.ErrOff
				cut++
			}
			refused(t, s.name, code, w.Commit())
			if code != api.ErrOff {
				well(t, d.Crash(keep...))
			}
			well(t, d.Wake())
			for l := m.recovering(t, s.name, string(d.Image())); len(l) > 0 && r.IntN(2) == 0; l = m.recovering(t, s.name, string(d.Image())) {
				well(t, d.Arm(api.Arm{After: 1 + r.IntN(len(l)), Keep: keep}))
				refused(t, s.name, api.ErrOff, s.recovers(t)(s.name, d))
				well(t, d.Wake())
			}
			well(t, s.recovers(t)(s.name, d), d.Crash(keep...), d.Wake())
			was, is := s.whole(t, s.name, string(d.Image()))
			if was == is || code == api.OK && !is || code == api.ErrFull && !was {
				t.Fatalf("%s: Commit = %d, done %v, not done %v", s.name, code, is, was)
			}
			if is {
				live = m.inUse()
				done++
			} else {
				undone++
			}
		}
	}
	if cut < 200 || done < 200 || undone < 200 {
		t.Errorf("%d times cut off, %d times done, %d times not", cut, done, undone)
	}
}

// P13.6, P13.8: arms that wait behind the first one see no operation of a Commit that was cut off; the second one cuts off the Recover, if that does something.
func TestArmsInARow(t *testing.T) {
	recovers := 0
	for _, s := range scenes() {
		ops, _ := s.model().committing()
		for after := 1; after <= len(ops); after++ {
			d := from(t, s.image)
			well(t, d.Arm(api.Arm{After: after, Keep: slices.Repeat([]int{1}, 24)}, api.Arm{After: 1}))
			refused(t, s.name, api.ErrOff, s.committed(t)(s.name, d), s.recovers(t)(s.name, d))
			if d.Ops() != after {
				t.Fatalf("%s, an arm of %d: %d operations", s.name, after, d.Ops())
			}
			well(t, d.Wake())
			if len(s.model().recovering(t, s.name, string(d.Image()))) > 0 {
				recovers++
				refused(t, s.name, api.ErrOff, s.recovers(t)(s.name, d))
			} else {
				well(t, s.recovers(t)(s.name, d))
				refused(t, s.name, api.ErrOff, d.Fence())
			}
			well(t, d.Wake())
			s.settled(t, s.name, d)
		}
	}
	if recovers < 100 {
		t.Errorf("%d times something was to be brought back", recovers)
	}
}

// P13.6: behind ErrOff the heap tells what was live, also where all was done: only one that is made anew knows.
func TestAHeapThatIsMadeAnew(t *testing.T) {
	g := roomy(4)
	d := from(t, g.image())
	h := g.heap(t, d, 0)
	w := begun(t, h)
	m := modelOf(g, g.image(), 0)
	for _, a := range []act{take(), write(1, filled(6)), give(0), setRoot(2)} {
		a.does(t, "anew", w, m)
	}
	ops, _ := m.committing()
	well(t, d.Arm(api.Arm{After: len(ops)}))
	refused(t, "cut off behind its last operation", api.ErrOff, w.Commit())
	lives(t, "cut off", h, 4, 0)
	well(t, d.Wake())
	p := g.pool(t, d)
	if n, e := p.Recover(); n != 0 || e != api.OK {
		t.Fatalf("Recover = %d, %d", n, e)
	}
	other, e := blocks.New(p, g.at, g.n)
	well(t, e, other.Load([]int{1}))
	x := begun(t, other)
	if v, e := x.Root(); v != 2 || e != api.OK {
		t.Errorf("Root = %d, %d", v, e)
	}
	if b, e := x.Read(1); string(b) != filled(6) || e != api.OK {
		t.Errorf("Read(1) = % x, %d", b, e)
	}
}
