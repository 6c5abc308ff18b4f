package blob_test

import (
	"bytes"
	"fmt"
	"slices"
	"strings"
	"testing"

	"vellum/api"
	"vellum/blob"
	"vellum/blocks"
	"vellum/pmem"
)

// P14.1: all lengths from below 0 to above MaxBlob, and those at the ends of ints.
func TestNeed(t *testing.T) {
	want := 0
	for n := -600; n <= 70000; n++ {
		if n > 248*want {
			want++
		}
		if got := blob.Need(n); got != want {
			t.Fatalf("Need(%d) = %d, not %d", n, got, want)
		}
	}
	for _, n := range odd() {
		want := max(n, 0) / 248
		if n > want*248 {
			want++
		}
		if got := blob.Need(n); got != want {
			t.Errorf("Need(%d) = %d, not %d", n, got, want)
		}
	}
}

// P14.1 to P14.4: the rows of the examples.
func TestExamples(t *testing.T) {
	for n, want := range map[int]int{0: 0, 1: 1, 248: 1, 249: 2, -5: 0} {
		if got := blob.Need(n); got != want {
			t.Errorf("Need(%d) = %d", n, got)
		}
	}
	d, e := pmem.New(heapAt + 8*256)
	well(t, e)
	w := begun(t, heap(t, d, 0))
	puts := func(text string, want uint32, code api.Errno) {
		t.Helper()
		if ref, e := blob.Put(w, text); ref != want || e != code {
			t.Errorf("Put of %d bytes = %d, %d", len(text), ref, e)
		}
	}
	gets := func(ref uint32, want string, code api.Errno) {
		t.Helper()
		if s, e := blob.Get(w, ref); s != want || e != code {
			t.Errorf("Get(%d) = %q, %d", ref, s, e)
		}
	}
	tells := func(ref uint32, code api.Errno, want ...int) {
		t.Helper()
		if l, e := blob.Blocks(w, ref); !slices.Equal(l, want) || e != code {
			t.Errorf("Blocks(%d) = %v, %d", ref, l, e)
		}
	}
	drops := func(ref uint32, code api.Errno) {
		t.Helper()
		if e := blob.Drop(w, ref); e != code {
			t.Errorf("Drop(%d) = %d", ref, e)
		}
	}
	puts("abc", 2, api.OK)
	gets(2, "abc", api.OK)
	tells(2, api.OK, 1)
	if b, e := w.Read(1); string(b) != "\x00\x00\x00\x00\x03\x00\x00\x00abc"+zeros(245) || e != api.OK {
		t.Errorf("block 1 is % x, %d", b, e)
	}
	puts(rising(600), 3, api.OK)
	tells(3, api.OK, 2, 3, 4)
	puts("", 0, api.OK)
	gets(0, "", api.OK)
	drops(0, api.OK)
	puts(rising(248*4), 0, api.ErrSpace)
	if !slices.Equal(w.Taken(), []int{1, 2, 3, 4, 5, 6, 7}) {
		t.Errorf("taken %v", w.Taken())
	}
	gets(1, "", api.ErrBlob)
	gets(9, "", api.ErrBlob)
	drops(9, api.ErrBlob)
	if s, e := blob.Get(nil, 0); s != "" || e != api.ErrNil {
		t.Errorf("Get of nil = %q, %d", s, e)
	}
	drops(3, api.OK)
	gets(3, "", api.ErrBlob)
	tells(4, api.ErrBlob)
	puts(rising(65537), 0, api.ErrLong)
	if d.Ops() != 0 {
		t.Errorf("%d operations", d.Ops())
	}
}

// P14.2, P14.3, P14.5: texts of all lengths up to six blocks, on heaps whose free blocks lie anywhere: which blocks they take, and each byte of these.
func TestPut(t *testing.T) {
	for _, live := range [][]int{nil, {0}, {1, 3, 4, 7}, {0, 1, 2, 3, 4}} {
		for n := range 6*248 + 3 {
			d := device(t, 12)
			was := d.Copy()
			w := begun(t, heap(t, d, live...))
			name := fmt.Sprint("live are ", live)
			stateOf(t, w).puts(t, name, w, live, rising(n))
			untouched(t, name, d, was)
		}
	}
}

// P14.2, P14.5: any bytes: each one alone, all of them, bytes 0 at the beginning and the end, what looks like a blob block, no UTF-8.
func TestPutOfAnyBytes(t *testing.T) {
	var all []byte
	for b := range 256 {
		all = append(all, byte(b))
	}
	texts := []string{string(all), zeros(1), zeros(247), zeros(248), zeros(249), zeros(600), "a\x00", "\x00a", full(1), full(0) + full(3),
		strings.Repeat("\xff", 500), "\xc3\xa9\r\n\xe2\x80\xa8", strings.Repeat("\xe2\x82\xac", 166)}
	for _, b := range all {
		texts = append(texts, string([]byte{b}))
	}
	for _, text := range texts {
		w := work(t, 9, 2)
		stateOf(t, w).puts(t, fmt.Sprintf("%.12q", text), w, []int{2}, text)
	}
}

// P14.2: texts around MaxBlob bytes, on heaps with just as many free blocks as they need, and with one fewer: ErrLong is ahead of ErrSpace, and takes nothing.
func TestPutOfLongTexts(t *testing.T) {
	for _, n := range []int{264*248 - 1, 264 * 248, 264*248 + 1, 65535, 65536, 65537, 265 * 248, 265*248 + 1, 1 << 20} {
		for _, free := range []int{0, 1, 263, 264, 265, 266, 280} {
			live := []int{0, 1, free + 2}
			w := work(t, free+3, live...)
			stateOf(t, w).puts(t, fmt.Sprint(free, " free"), w, live, rising(n))
		}
	}
}

// P14.2: just as many free blocks as a text needs, and one fewer, down to none; blocks that are live, taken and given are not free. With ErrSpace those that were taken stay so, and are as they were.
func TestPutWithoutRoom(t *testing.T) {
	for _, n := range append(edges(), 1240, 1241) {
		for free := range 8 {
			live := []int{0, 2, 4}
			name := fmt.Sprint(n, " bytes, ", free, " free")
			d := device(t, 5+free)
			was := d.Copy()
			w := begun(t, heap(t, d, live...))
			well(t, second(w.Take()), second(w.Take()), w.Give(2), w.Write(1, []byte(full(0))))
			s := stateOf(t, w)
			s.puts(t, name, w, live, rising(n))
			if blob.Need(n) > free {
				image := string(was.Image())
				for _, b := range s.free(live) {
					if data, e := w.Read(b); string(data) != image[heapAt+256*b:heapAt+256*b+256] || e != api.OK {
						t.Fatalf("%s: block %d was written, % x, %d", name, b, data, e)
					}
				}
				// All are taken now: not even a byte has room, but the empty text needs none.
				s = stateOf(t, w)
				s.puts(t, name+", full", w, live, "x")
				s.puts(t, name+", full", w, live, "")
			}
			untouched(t, name, d, was)
		}
	}
}

// P14.2 to P14.4: blocks with great numbers: the last ones of the greatest device.
func TestPutOnTheGreatestDevice(t *testing.T) {
	const n = (api.MaxSize - heapAt) / 256
	live := slices.Concat([]int{0}, upTo(n - 2)[2:])
	w := work(t, n, live...)
	ref := stateOf(t, w).puts(t, "the greatest device", w, live, rising(700))
	if l, e := blob.Blocks(w, ref); !slices.Equal(l, []int{1, n - 2, n - 1}) || e != api.OK {
		t.Errorf("Blocks = %v, %d", l, e)
	}
	stateOf(t, w).drops(t, "the greatest device", w, ref)
}

// P14.2: a heap without blocks takes the empty text alone.
func TestAHeapWithoutBlocks(t *testing.T) {
	w := work(t, 0)
	s := stateOf(t, w)
	for _, n := range []int{0, 1, 65536, 65537} {
		s.puts(t, "no blocks", w, nil, rising(n))
	}
	for _, ref := range append(far(), 0, 1, 2) {
		s.tells(t, "no blocks", w, ref)
		s.drops(t, "no blocks", w, ref)
	}
}

// P14.2, P14.4, P14.5: blocks that were dropped and are taken again have nothing of the longer text that stood there; other blobs stay as they are.
func TestPutAgain(t *testing.T) {
	live := []int{4}
	w := work(t, 10, 4)
	other := stateOf(t, w).puts(t, "another one", w, live, "other")
	for _, n := range append(edges(), 3, 600, 5, 1, 0, 900) {
		s := stateOf(t, w)
		ref := s.puts(t, "again", w, live, strings.Repeat("y", n))
		if text, e := blob.Get(w, other); text != "other" || e != api.OK {
			t.Fatalf("the other one is %q, %d", text, e)
		}
		stateOf(t, w).drops(t, "again", w, ref)
		s.is(t, "dropped", w)
	}
	well(t, w.Give(0))
	stateOf(t, w).tells(t, "one whose block was given", w, other)
}

// P14.2, P14.5: several blobs beside one another, in blocks between each other's, dropped in another order than they were put.
func TestBlobsBesideOneAnother(t *testing.T) {
	live := []int{1, 6}
	w := work(t, 24, live...)
	texts := map[uint32]string{}
	var refs []uint32
	add := func(n int) {
		text := rising(n + 7)[7:]
		ref := stateOf(t, w).puts(t, "beside others", w, live, text)
		refs = append(refs, ref)
		texts[ref] = text
	}
	drop := func(i int) {
		stateOf(t, w).drops(t, "beside others", w, refs[i])
		delete(texts, refs[i])
		refs = slices.Delete(refs, i, i+1)
	}
	check := func() {
		t.Helper()
		for ref, text := range texts {
			if got, e := blob.Get(w, ref); got != text || e != api.OK {
				t.Fatalf("Get(%d) = %d bytes, %d; not %d", ref, len(got), e, len(text))
			}
		}
	}
	for _, n := range []int{600, 1, 248, 249, 900} {
		add(n)
		check()
	}
	drop(2)
	drop(0)
	check()
	// Into blocks that lie apart now, with those of others between them.
	add(1400)
	if l, _ := blob.Blocks(w, refs[3]); !slices.Equal(l, []int{0, 2, 3, 5, 13, 14}) {
		t.Errorf("blocks %v", l)
	}
	check()
	drop(1)
	add(300)
	check()
	for len(refs) > 0 {
		drop(len(refs) / 2)
		check()
	}
}

// noWorks is works that are none: nil, and ones that no call made, also while the device of what they were copied from is off, or that one is over.
func noWorks(t *testing.T) []*blocks.Work {
	t.Helper()
	w := work(t, 8, 0)
	over := work(t, 8, 0)
	well(t, over.Drop())
	d := device(t, 8)
	off := begun(t, heap(t, d, 0))
	well(t, d.Crash())
	byHand, byHandOver, byHandOff := *w, *over, *off
	return []*blocks.Work{nil, {}, &byHand, &byHandOver, &byHandOff}
}

// ended is works that are over, by each call that ends one.
func ended(t *testing.T) map[string]*blocks.Work {
	t.Helper()
	l := map[string]*blocks.Work{}
	for name, end := range map[string]func(w *blocks.Work, d *pmem.Device){
		"Drop":   func(w *blocks.Work, d *pmem.Device) { well(t, w.Drop()) },
		"Commit": func(w *blocks.Work, d *pmem.Device) { well(t, w.Commit()) },
		"off and on again": func(w *blocks.Work, d *pmem.Device) {
			well(t, d.Crash())
			if e := second(blob.Get(w, 0)); e != api.ErrOff {
				t.Fatalf("off: Get = %d", e)
			}
			well(t, d.Wake())
		},
		"over, and off": func(w *blocks.Work, d *pmem.Device) { well(t, w.Drop(), d.Crash()) },
	} {
		d := device(t, 8)
		w := begun(t, heap(t, d, 0))
		well(t, second(blob.Put(w, rising(300))))
		end(w, d)
		l[name] = w
	}
	return l
}

// refuses holds what all calls answer of a work against an error, whatever else is wrong; anew is asked for each call.
func refuses(t *testing.T, name string, want api.Errno, anew func() *blocks.Work) {
	t.Helper()
	for _, text := range []string{"", "x", rising(65536), rising(65537)} {
		if ref, e := blob.Put(anew(), text); ref != 0 || e != want {
			t.Errorf("%s: Put of %d bytes = %d, %d; not %d", name, len(text), ref, e, want)
		}
	}
	for _, ref := range append(far(), 0, 1, 2, 3, 8, 9) {
		if text, e := blob.Get(anew(), ref); text != "" || e != want {
			t.Errorf("%s: Get(%d) = %q, %d; not %d", name, ref, text, e, want)
		}
		if l, e := blob.Blocks(anew(), ref); len(l) != 0 || e != want {
			t.Errorf("%s: Blocks(%d) = %v, %d; not %d", name, ref, l, e, want)
		}
		if e := blob.Drop(anew(), ref); e != want {
			t.Errorf("%s: Drop(%d) = %d, not %d", name, ref, e, want)
		}
	}
}

// P14.2 to P14.4, R3: works that are none, that are over, or whose device is off: what their Root answers, ahead of all else.
func TestWorksThatMayNotBe(t *testing.T) {
	for i, w := range noWorks(t) {
		refuses(t, fmt.Sprint("none ", i), api.ErrNil, func() *blocks.Work { return w })
	}
	for name, w := range ended(t) {
		refuses(t, name, api.ErrState, func() *blocks.Work { return w })
	}
	var last *blocks.Work
	refuses(t, "off", api.ErrOff, func() *blocks.Work {
		// A new one each time: behind ErrOff it is over.
		if last != nil {
			if e := last.Drop(); e != api.ErrState {
				t.Errorf("off: not over, %d", e)
			}
		}
		d := device(t, 8)
		last = begun(t, heap(t, d, 0))
		well(t, second(blob.Put(last, rising(300))), d.Crash())
		return last
	})
}

// R5: what is told is new memory: changed by the caller, and told again.
func TestNewMemory(t *testing.T) {
	w := work(t, 8, 0)
	text := []byte(rising(600))
	ref, e := blob.Put(w, string(text))
	well(t, e)
	s := stateOf(t, w)
	l, e := blob.Blocks(w, ref)
	well(t, e)
	more := append(l, 7)
	clear(more[:cap(more)])
	s.tells(t, "a list that was changed", w, ref)
	got, e := blob.Get(w, ref)
	well(t, e)
	b, e := w.Read(1)
	well(t, e)
	clear(b)
	well(t, blob.Drop(w, ref), second(blob.Put(w, strings.Repeat("z", 600))))
	if !bytes.Equal([]byte(got), text) {
		t.Errorf("the text that was told has changed")
	}
}
