package pmem_test

import (
	"math"
	"math/rand/v2"
	"slices"
	"testing"

	"vellum/api"
	"vellum/pmem"
)

// walk makes all rows of so many calls, each held against the model; what is done to copies must not be seen.
func walk(t *testing.T, d *pmem.Device, m *model, calls, made []call, depth int) {
	t.Helper()
	if depth == 0 {
		loseEach(t, d, m, made)
		return
	}
	for _, c := range calls {
		nd, nm := d.Copy(), m.copy()
		next := append(made[:len(made):len(made)], c)
		bothDo(t, nd, nm, c, next)
		sameAs(t, nd, nm, next)
		walk(t, nd, nm, calls, next, depth-1)
	}
	sameAs(t, d, m, made)
}

// loseEach lets the power go with each choice of two lines' contents: each one is kept, whole, and kept on.
func loseEach(t *testing.T, d *pmem.Device, m *model, made []call) {
	t.Helper()
	if m.off {
		return
	}
	for k0, c0 := range m.lines[0] {
		for k1, c1 := range m.lines[1] {
			other := d.Copy()
			if e := other.Crash(k0, k1); e != api.OK || string(other.Image()) != c0+c1 {
				t.Fatalf("%s, Crash(%d, %d) = %d: % x", names(made), k0, k1, e, other.Image())
			}
			if a, b := other.Wake(), other.Crash(1, 1); a != api.OK || b != api.OK || string(other.Image()) != c0+c1 {
				t.Fatalf("%s, Crash(%d, %d), Wake = %d, Crash = %d: % x", names(made), k0, k1, a, b, other.Image())
			}
		}
	}
}

// P8.2 to P8.9: all rows of calls of several small alphabets.
func TestAllRows(t *testing.T) {
	image := rising(128)
	for _, x := range []struct {
		depth int
		calls []call
	}{
		{6, []call{store8(0, ones), store8(8, twos), flush(0), fence()}},
		{5, []call{store8(0, ones), store8(0, twos), store(62, "\x03\x03\x03\x03"), flush(63), flush(64), fence()}},
		{5, []call{store8(56, ones), store(60, "abcdefgh"), flush(1), fence(), crash(1, 1), wake()}},
		{5, []call{arm(api.Arm{After: 2, Keep: []int{1}}), store(4, "abcdefghijkl"), flush(0), fence(), crash(1), wake()}},
		{5, []call{arm(api.Arm{After: 1}, api.Arm{After: 3, Keep: []int{2, 1}}), store(63, "ab"), flush(127), fence(), wake()}},
		{5, []call{arm(api.Arm{After: 1, Keep: []int{1}}), arm(api.Arm{After: 2, Keep: []int{5}}), store8(0, ones), store8(0, twos), wake()}},
		{4, []call{store8(0, ones), store8(3, 1), store8(128, 1), store(121, "abcdefgh"), store(-1, ""), load(-1, 1), flush(128), flush(0), fence(), arm(api.Arm{}), arm(api.Arm{After: 3}), arm(api.Arm{After: 1, Keep: []int{-1}}), crash(-1), crash(1), wake()}},
	} {
		walk(t, from(t, image), modelOf(image), x.calls, nil, x.depth)
	}
}

// place is one of those that tests ask for: on the device, at its ends, beyond.
func place(r *rand.Rand, size int) int {
	switch r.IntN(12) {
	case 0:
		return []int{-1, size, size + 1, size - 1, size - 8, math.MaxInt, math.MinInt}[r.IntN(7)]
	case 1, 2, 3:
		return r.IntN(size)
	}
	return r.IntN(size) / 8 * 8
}

// keepsOf is a list of numbers, shorter and longer than there are lines, some of them great, few below 0.
func keepsOf(r *rand.Rand, lines int) []int {
	l := make([]int, r.IntN(lines+3))
	for i := range l {
		l[i] = r.IntN(9)
		if r.IntN(10) == 0 {
			l[i] = math.MaxInt - r.IntN(9)
		}
	}
	if len(l) > 0 && r.IntN(30) == 0 {
		l[r.IntN(len(l))] = -1
	}
	return l
}

// bytesOf is bytes to store, few of them or over many lines.
func bytesOf(r *rand.Rand, size int) string {
	n := r.IntN(20)
	if r.IntN(10) == 0 {
		n = r.IntN(size + 2)
	}
	b := make([]byte, n)
	for i := range b {
		b[i] = byte(r.IntN(256))
	}
	return string(b)
}

// anyCall is one of all calls.
func anyCall(r *rand.Rand, size int) call {
	switch r.IntN(20) {
	case 0, 1, 2, 3:
		return store(place(r, size), bytesOf(r, size))
	case 4, 5, 6, 7:
		return store8(place(r, size), uint64(r.IntN(3)))
	case 8, 9, 10, 11:
		return flush(place(r, size))
	case 12, 13:
		return fence()
	case 14:
		return load(place(r, size), place(r, size))
	case 15:
		return arm(api.Arm{After: r.IntN(40), Keep: keepsOf(r, size/64)}, api.Arm{After: 1 + r.IntN(4), Keep: keepsOf(r, size/64)})
	case 16:
		return crash(keepsOf(r, size/64)...)
	}
	return wake()
}

// P8.1 to P8.9: long rows of calls on devices of some sizes.
func TestLongRows(t *testing.T) {
	r := rand.New(rand.NewPCG(8, 8))
	for _, lines := range []int{1, 1, 2, 2, 3, 5, 8, 17} {
		image := rising(lines * 64)
		d, m := from(t, image), modelOf(image)
		var made []call
		for range 3000 {
			c := anyCall(r, lines*64)
			made = append(made, c)
			last := made[max(0, len(made)-12):]
			bothDo(t, d, m, c, last)
			sameAs(t, d, m, last)
			if r.IntN(40) == 0 {
				d = d.Copy()
			}
		}
	}
}

// P8.9: what was stored, then flushed, then fenced is there behind every loss of power until it is stored anew, told by words alone.
func TestFencedLasts(t *testing.T) {
	const size = 256
	r := rand.New(rand.NewPCG(8, 9))
	d := made(t, size)
	var seen, fenced, flushed [size / 8]uint64 // of each word
	var clean, marked [size / 8]bool           // whether it is as it was fenced, flushed
	for i := range clean {
		clean[i] = true
	}
	next := uint64(0)
	for range 40000 {
		word := r.IntN(size / 8)
		switch r.IntN(5) {
		case 0, 1:
			next++
			all(t, d, store8(word*8, next))
			seen[word], clean[word], marked[word] = next, false, false
		case 2, 3:
			all(t, d, flush(word*8+r.IntN(8)))
			for w := word / 8 * 8; w < word/8*8+8; w++ {
				flushed[w], marked[w] = seen[w], true
			}
		case 4:
			all(t, d, fence())
			for w := range marked {
				if marked[w] {
					fenced[w], clean[w] = flushed[w], true
				}
				marked[w] = false
			}
		}
		lost := d.Copy()
		all(t, lost, crash(r.IntN(7), r.IntN(7), r.IntN(7), r.IntN(7)), wake())
		for w := range clean {
			if b, _ := lost.Load(w*8, 4); clean[w] && fenced[w] != uint64(b[0])|uint64(b[1])<<8|uint64(b[2])<<16 {
				t.Fatalf("word %d is % x, %d was fenced", w, b, fenced[w])
			}
		}
		if r.IntN(100) == 0 {
			d = lost
			for w := range seen {
				b, _ := d.Load(w*8, 4)
				seen[w] = uint64(b[0]) | uint64(b[1])<<8 | uint64(b[2])<<16
				fenced[w], clean[w], marked[w] = seen[w], true, false
			}
		}
	}
}

// P8.9: each word of each content is one that was stored there, or stood there at first; what a line keeps is one of its contents.
func TestNoWordIsTorn(t *testing.T) {
	const size = 192
	r := rand.New(rand.NewPCG(8, 10))
	for range 300 {
		image := rising(size)
		d := from(t, image)
		stored := map[int][]string{}
		for w := range size / 8 {
			stored[w] = []string{image[w*8 : w*8+8]}
		}
		for range 30 {
			at := r.IntN(size)
			b := bytesOf(r, size)
			b = b[:min(len(b), size-at)]
			before := string(d.Image())
			after := before[:at] + b + before[at+len(b):]
			for w := range size / 8 {
				stored[w] = append(stored[w], after[w*8:w*8+8])
			}
			all(t, d, store(at, b))
			if r.IntN(3) == 0 {
				all(t, d, flush(r.IntN(size)))
			}
			if r.IntN(6) == 0 {
				all(t, d, fence())
			}
			checkWords(t, d, stored, keepsAbove0(r))
		}
	}
}

func keepsAbove0(r *rand.Rand) []int { return []int{r.IntN(1000), r.IntN(1000), r.IntN(1000)} }

// checkWords holds the words of all contents against those that were stored, and what the lines keep against the contents.
func checkWords(t *testing.T, d *pmem.Device, stored map[int][]string, keep []int) {
	t.Helper()
	lost := d.Copy()
	all(t, lost, crash(keep...))
	for line := range d.Size() / 64 {
		l := d.Contents(line)
		kept := lost.Contents(line)
		if len(kept) != 1 || !slices.Equal(kept[0], l[keep[line]%len(l)]) {
			t.Fatalf("line %d keeps % x", line, kept)
		}
		for _, c := range l {
			for i := range 8 {
				if w := line*8 + i; !slices.Contains(stored[w], string(c[i*8:i*8+8])) {
					t.Fatalf("word %d is torn: % x", w, c[i*8:i*8+8])
				}
			}
		}
	}
}
