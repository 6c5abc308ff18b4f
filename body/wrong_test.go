package body_test

import (
	"fmt"
	"math"
	"slices"
	"strings"
	"testing"

	"vellum/api"
	"vellum/blocks"
	"vellum/body"
	"vellum/chunks"
	"vellum/pmem"
	"vellum/table"
)

// begins holds what all methods of a body begin with: an error, whatever else is wrong, and nothing beside it; anew is asked for each call.
func begins(t *testing.T, name string, want api.Errno, anew func() *body.Body) {
	t.Helper()
	is := func(call string, zero bool, e api.Errno) {
		t.Helper()
		if !zero || e != want {
			t.Fatalf("%s: %s = %d, not %d, or beside it something (%v)", name, call, e, want, !zero)
		}
	}
	long := strings.Repeat("x", 4097)
	for _, at := range []int{math.MinInt, -1, 0, 1, math.MaxInt} {
		n, e := anew().At(at)
		is("At", n == 0, e)
		n, e = anew().Of(at)
		is("Of", n == 0, e)
		p, e := anew().Where(at)
		is("Where", p == api.Spot{}, e)
		for _, to := range []int{-1, 0, 1} {
			s, e := anew().Text(at, to)
			is("Text", s == "", e)
			n, e := anew().Place(api.Spot{Line: at, Column: to})
			is("Place", n == 0, e)
			for _, s := range []string{"", "x", long} {
				c, e := anew().Edit(at, to, s)
				is("Edit", c == api.Change{}, e)
			}
		}
		for _, c := range []api.Change{{At: at}, {At: at, New: "x"}, {At: at, Old: "x"}, {At: at, Old: long, New: long}} {
			is("Apply", true, anew().Apply(c))
		}
		if first(anew().Runes(at), 9) != nil || first(anew().Back(at), 9) != nil {
			t.Fatalf("%s: characters", name)
		}
	}
	if got := anew().Tally(); got != (api.Tally{}) {
		t.Fatalf("%s: Tally = %v", name, got)
	}
}

// P18.1, R3: bodies that are none: nil, and ones that no call made, also while the work of what they were copied from is over, or its device off.
func TestBodiesThatAreNone(t *testing.T) {
	b := made(t, work(t, 8), "abc")
	w := work(t, 8)
	over := made(t, w, "abc")
	well(t, w.Drop())
	d := device(t, 8)
	off := made(t, begun(t, heap(t, d)), "abc")
	well(t, d.Crash())
	byHand, byHandOver, byHandOff := *b, *over, *off
	for i, b := range []*body.Body{nil, {}, &byHand, &byHandOver, &byHandOff} {
		begins(t, fmt.Sprint("none ", i), api.ErrNil, func() *body.Body { return b })
		if b.Ref() != 0 {
			t.Errorf("none %d: Ref = %d", i, b.Ref())
		}
	}
	modelOf("abc").tells(t, "the one that was copied", b, []int{0, 1, 3})
}

// P18.1: works that are none.
func TestOpenOfNoWork(t *testing.T) {
	w := work(t, 8)
	ref := made(t, w, "abc").Ref()
	byHand := *w
	for i, w := range []*blocks.Work{nil, {}, &byHand} {
		for _, ref := range append(far(), 0, 1, ref, 9) {
			if b, e := body.Open(w, ref); b != nil || e != api.ErrNil {
				t.Errorf("work %d: Open(%d) = %v, %d", i, ref, b, e)
			}
		}
	}
}

// P18.1: works that are over, by each call that ends one: ErrState, ahead of all else.
func TestWorksThatAreOver(t *testing.T) {
	for name, end := range map[string]func(w *blocks.Work, d *pmem.Device){
		"Drop":   func(w *blocks.Work, d *pmem.Device) { well(t, w.Drop()) },
		"Commit": func(w *blocks.Work, d *pmem.Device) { well(t, w.Commit()) },
		"off and on again": func(w *blocks.Work, d *pmem.Device) {
			well(t, d.Crash())
			if _, e := w.Root(); e != api.ErrOff {
				t.Fatalf("off: Root = %d", e)
			}
			well(t, d.Wake())
		},
		"over, and off": func(w *blocks.Work, d *pmem.Device) { well(t, w.Drop(), d.Crash()) },
	} {
		d := device(t, 12)
		w := begun(t, heap(t, d))
		empty, full := opened(t, w, 0), made(t, w, prose(300, 0))
		wrong := made(t, w, "abc")
		well(t, w.Write(int(wrong.Ref())-1, make([]byte, 256)))
		refs := append(far(), 0, 1, full.Ref(), wrong.Ref(), 9)
		end(w, d)
		for _, ref := range refs {
			if b, e := body.Open(w, ref); b != nil || e != api.ErrState {
				t.Errorf("%s: Open(%d) = %v, %d", name, ref, b, e)
			}
		}
		for i, b := range []*body.Body{empty, full, wrong} {
			ref := b.Ref()
			begins(t, fmt.Sprint(name, ", body ", i), api.ErrState, func() *body.Body { return b })
			if b.Ref() != ref || (ref == 0) != (i == 0) {
				t.Errorf("%s: Ref = %d, not %d", name, b.Ref(), ref)
			}
		}
	}
}

// P18.1: a device that is off: ErrOff, ahead of all else; the work is over then.
func TestOff(t *testing.T) {
	for kind := range 3 {
		var last *blocks.Work
		begins(t, fmt.Sprint("off, body ", kind), api.ErrOff, func() *body.Body {
			if last != nil {
				if e := last.Drop(); e != api.ErrState {
					t.Errorf("off: not over, %d", e)
				}
			}
			d := device(t, 8)
			last = begun(t, heap(t, d))
			b := made(t, last, []string{"", prose(300, 0), "abc"}[kind])
			if kind == 2 {
				well(t, last.Write(0, make([]byte, 256)))
			}
			well(t, d.Crash())
			return b
		})
		d := device(t, 8)
		w := begun(t, heap(t, d))
		ref := made(t, w, prose(300, 0)).Ref()
		well(t, d.Crash())
		if b, e := body.Open(w, []uint32{0, ref, 9}[kind]); b != nil || e != api.ErrOff {
			t.Errorf("Open = %v, %d", b, e)
		}
	}
}

// P18.1, R1: references of any kind: a body just where chunks.Tally tells a text, else its error.
func TestReferencesOfAnyKind(t *testing.T) {
	s := scene{text: prose(700, 2), sizes: []int{252, 1, 252, 195}, free: 3}
	d, w, ref := s.lay(t)
	was := d.Copy()
	other, e := table.Insert(w, 0, 2, 0, []byte("ab"))
	well(t, e)
	before := stateOf(t, w)
	texts := 0
	for _, ref := range append(far(), 0, 1, 2, 3, 4, 5, 6, 7, 8, 9, 10, 20, ref, other) {
		_, want := chunks.Tally(w, ref)
		b, e := body.Open(w, ref)
		if e != want || (b == nil) != (want != api.OK) {
			t.Errorf("Open(%d) = %v, %d; not %d", ref, b, e, want)
		}
		if b != nil {
			texts++
			if b.Ref() != ref {
				t.Errorf("Ref = %d, not %d", b.Ref(), ref)
			}
		}
	}
	if texts != 3 {
		t.Errorf("%d texts", texts)
	}
	before.is(t, "references", w)
	untouched(t, "references", d, was)
}

// P18.1 to P18.7, R1: blocks in which anything stands, of a body that was opened ahead of that: each method begins with the error that chunks.Tally has; and where that has none it tells the text that is there.
func TestAnythingInTheBlocks(t *testing.T) {
	s := scene{text: prose(300, 3), sizes: []int{252, 48}, free: 1}
	_, w, ref := s.lay(t)
	b := opened(t, w, ref)
	l, e := chunks.Blocks(w, ref)
	well(t, e)
	texts := 0
	for _, n := range l {
		data, e := w.Read(n)
		well(t, e)
		for at := range data {
			for _, by := range []byte{1, 0x80, 0xff} {
				now := slices.Clone(data)
				now[at] ^= by
				well(t, w.Write(n, now))
				known, want := chunks.Tally(w, ref)
				name := fmt.Sprint("byte ", at, " of block ", n)
				if want != api.OK {
					if at%16 == 0 {
						begins(t, name, want, func() *body.Body { return b })
					}
					if got, e := b.Text(0, 0); got != "" || e != want {
						t.Fatalf("%s: Text = %q, %d; not %d", name, got, e, want)
					}
					if got, e := body.Open(w, ref); got != nil || e != want {
						t.Fatalf("%s: Open = %v, %d; not %d", name, got, e, want)
					}
					continue
				}
				texts++
				whole, e := chunks.Read(w, ref, 0, known.Bytes)
				well(t, e)
				if got, e := b.Text(0, known.Chars); got != whole || e != api.OK || b.Tally() != known {
					t.Fatalf("%s: Text = %.99q, %d", name, got, e)
				}
			}
		}
		well(t, w.Write(n, data))
	}
	if texts == 0 {
		t.Error("no text was told")
	}
	modelOf(s.text).tells(t, "all as it was", b, []int{0, 1, 100})
}

// P18.1: blocks of a text that were given: it is none any more.
func TestGivenBlocks(t *testing.T) {
	s := scene{text: prose(300, 3), sizes: []int{252, 48}}
	for i := range 3 {
		_, w, ref := s.lay(t)
		b := opened(t, w, ref)
		l, e := chunks.Blocks(w, ref)
		well(t, e, w.Give(l[i]))
		begins(t, fmt.Sprint("block ", i, " given"), api.ErrChunks, func() *body.Body { return b })
	}
}

// P18.1: a text of more than MaxText bytes is none.
func TestMoreThanMaxText(t *testing.T) {
	w := work(t, 5000)
	text := strings.Repeat("x", 1<<20)
	ref, e := chunks.Insert(w, 0, 0, text)
	well(t, e)
	b := opened(t, w, ref)
	sizes, e := chunks.Sizes(w, ref)
	well(t, e)
	l, e := chunks.Blocks(w, ref)
	well(t, e)
	k := slices.IndexFunc(sizes, func(n int) bool { return n < 252 })
	block, cell := laid(t, l[k], text[:sizes[k]+1], 0)
	well(t, w.Write(l[k], block), table.Put(w, ref, 16, k, cell))
	if got, e := body.Open(w, ref); got != nil || e != api.ErrChunks {
		t.Errorf("Open = %v, %d", got, e)
	}
	if got, e := b.Text(0, 0); got != "" || e != api.ErrChunks {
		t.Errorf("Text = %q, %d", got, e)
	}
}
