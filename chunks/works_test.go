package chunks_test

import (
	"fmt"
	"slices"
	"testing"

	"vellum/api"
	"vellum/blocks"
	"vellum/chunks"
	"vellum/pmem"
)

// P17.1 to P17.6, R3: works that are none: nil, and ones that no call made, also while the device of what they were copied from is off, or that one is over.
func TestWorksThatAreNone(t *testing.T) {
	w := work(t, 8, 0)
	over := work(t, 8, 0)
	well(t, over.Drop())
	d := device(t, 8)
	off := begun(t, heap(t, d, 0))
	well(t, d.Crash())
	byHand, byHandOver, byHandOff := *w, *over, *off
	for i, w := range []*blocks.Work{nil, {}, &byHand, &byHandOver, &byHandOff} {
		for _, ref := range append(far(), 0, 1, 2, 9) {
			refuses(t, fmt.Sprint("none ", i), api.ErrNil, func() *blocks.Work { return w }, ref)
		}
	}
}

// P17.1 to P17.6: works that are over, by each call that ends one: ErrState, ahead of all else.
func TestWorksThatAreOver(t *testing.T) {
	for name, end := range map[string]func(w *blocks.Work, d *pmem.Device){
		"Drop":   func(w *blocks.Work, d *pmem.Device) { well(t, w.Drop()) },
		"Commit": func(w *blocks.Work, d *pmem.Device) { well(t, w.Commit()) },
		"off and on again": func(w *blocks.Work, d *pmem.Device) {
			well(t, d.Crash())
			if e := second(chunks.Tally(w, 0)); e != api.ErrOff {
				t.Fatalf("off: Tally = %d", e)
			}
			well(t, d.Wake())
		},
		"over, and off": func(w *blocks.Work, d *pmem.Device) { well(t, w.Drop(), d.Crash()) },
	} {
		d := device(t, 8)
		w := begun(t, heap(t, d, 0))
		text, e := chunks.Insert(w, 0, 0, prose(300, 0))
		well(t, e)
		end(w, d)
		for _, ref := range append(far(), 0, 1, text, 9) {
			refuses(t, name, api.ErrState, func() *blocks.Work { return w }, ref)
		}
	}
}

// P17.1 to P17.6: a device that is off: ErrOff, ahead of all else; the work is over then.
func TestOff(t *testing.T) {
	for _, ref := range []uint32{0, 2, 4, 9, 1<<32 - 1} {
		var last *blocks.Work
		refuses(t, "off", api.ErrOff, func() *blocks.Work {
			if last != nil {
				if e := last.Drop(); e != api.ErrState {
					t.Errorf("off: not over, %d", e)
				}
			}
			d := device(t, 8)
			last = begun(t, heap(t, d, 0))
			well(t, second(chunks.Insert(last, 0, 0, prose(300, 0))), d.Crash())
			return last
		}, ref)
	}
}

// P17.6: texts in live blocks and in taken ones are dropped; another text in the same heap stays as it is.
func TestDrop(t *testing.T) {
	for _, s := range scenes(4, []int{1, 127, 252}, 3) {
		p, ref := s.twins(t)
		other, e := p.inserts(t, "another text", 0, 0, "another one")
		well(t, e, p.drops(t, fmt.Sprint("sizes ", s.sizes), ref))
		if ref != 0 {
			if e := p.drops(t, "again", ref); e != api.ErrChunks {
				t.Fatalf("dropped twice: %d", e)
			}
		}
		if got, e := chunks.Read(p.w, other, 0, 11); got != "another one" || e != api.OK {
			t.Fatalf("Read = %q, %d", got, e)
		}
		// What was taken is free again, the least one first.
		p.inserts(t, "dropped", 0, 0, prose(100, 3))
	}
}

// P17.6: a text that was committed is dropped in a later work: its blocks are free behind the Commit, no sooner.
func TestLaterDrop(t *testing.T) {
	d := device(t, 9)
	h := heap(t, d, 8)
	w := begun(t, h)
	ref, e := chunks.Insert(w, 0, 0, prose(1000, 0))
	well(t, e, w.Commit())
	was := d.Copy()
	w = begun(t, h)
	well(t, chunks.Drop(w, ref))
	if got := w.Given(); !slices.Equal(got, []int{0, 1, 2, 3, 4}) {
		t.Errorf("given %v", got)
	}
	well(t, second(chunks.Insert(w, 0, 0, "x")))
	if got := w.Taken(); !slices.Equal(got, []int{5, 6}) {
		t.Errorf("taken %v", got)
	}
	well(t, w.Drop())
	w = begun(t, h)
	well(t, chunks.Drop(w, ref), w.Commit())
	untouched(t, "a drop", d, was)
	if got := h.Lives(); !slices.Equal(got, []int{8}) {
		t.Errorf("live %v", got)
	}
}

// P17.1 to P17.5: two texts in one heap: a change of one is none of the other, and a reference tells just its own.
func TestTwoTexts(t *testing.T) {
	p := twins{work(t, 40), work(t, 40)}
	a, b := uint32(0), uint32(0)
	texts := map[bool]string{}
	for i := range 60 {
		first := i%2 == 0
		ref := &b
		if first {
			ref = &a
		}
		s := texts[first]
		at := (i * 37) % (len(s) + 1)
		if i%5 == 4 {
			to := min(at+150, len(s))
			next, e := p.deletes(t, "two texts", *ref, at, to)
			well(t, e)
			*ref, texts[first] = next, s[:at]+s[to:]
		} else {
			x := prose(1+i*13%200, i)
			next, e := p.inserts(t, "two texts", *ref, at, x)
			well(t, e)
			*ref, texts[first] = next, s[:at]+x+s[at:]
		}
		for first, ref := range map[bool]uint32{true: a, false: b} {
			if got, e := chunks.Read(p.w, ref, 0, len(texts[first])); got != texts[first] || e != api.OK {
				t.Fatalf("call %d: Read(%d) = %d", i, ref, e)
			}
		}
	}
	if len(texts[true]) < 1000 || len(texts[false]) < 1000 || a == b {
		t.Errorf("%d and %d bytes", len(texts[true]), len(texts[false]))
	}
}

// P17.1, P17.4: what tells changes nothing, nor does an Insert or a Delete of nothing.
func TestNothingDone(t *testing.T) {
	for _, s := range scenes(3, []int{1, 127, 252}, 2) {
		d, _, w, ref := s.lay(t)
		was := d.Copy()
		before := stateOf(t, w)
		tells(t, "nothing done", w, ref)
		for _, at := range s.edges() {
			if next, e := chunks.Insert(w, ref, at, ""); next != ref || e != api.OK {
				t.Errorf("Insert(%d) of nothing = %d, %d", at, next, e)
			}
			if next, e := chunks.Delete(w, ref, at, at); next != ref || e != api.OK {
				t.Errorf("Delete(%d, %d) = %d, %d", at, at, next, e)
			}
		}
		before.is(t, "nothing done", w)
		untouched(t, "nothing done", d, was)
	}
}

// R5: what is told is new memory: changed by the caller, and told again.
func TestNewMemory(t *testing.T) {
	_, _, w, ref := three().lay(t)
	for _, f := range []func(w *blocks.Work, ref uint32) ([]int, api.Errno){chunks.Sizes, chunks.Blocks} {
		l, e := f(w, ref)
		well(t, e)
		want := slices.Clone(l)
		_ = append(l, 99)
		clear(l[:cap(l)])
		if again, e := f(w, ref); !slices.Equal(again, want) || e != api.OK {
			t.Errorf("told again: %v, not %v", again, want)
		}
	}
	tells(t, "changed by the caller", w, ref)
}
