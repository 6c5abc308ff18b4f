package persist_test

import (
	"bytes"
	"fmt"
	"math/rand/v2"
	"testing"

	"vellum/api"
	"vellum/persist"
	"vellum/pmem"
)

// P9.1 to P9.3, P9.5: the power goes behind each operation of a call, with each choice of what lines keep: the call answers ErrOff, and has done just the operations up to there; behind the last one, too.
func TestThePowerGoesWithinCalls(t *testing.T) {
	for name, d := range beginnings(t) {
		for _, c := range calls() {
			for after := 1; after <= len(c.ops); after++ {
				stopped := d.Copy()
				for _, o := range c.ops[:after] {
					well(t, o(stopped))
				}
				for _, keep := range keeps(stopped) {
					got, want := d.Copy(), stopped.Copy()
					well(t, got.Arm(api.Arm{After: after, Keep: keep}), want.Crash(keep...))
					at := fmt.Sprintf("%s: %s, the power going behind %d, lines keeping %v", name, c.name, after, keep)
					if e := c.do(got); e != api.ErrOff {
						t.Fatalf("%s = %d", at, e)
					}
					same(t, at, got, want)
				}
			}
		}
	}
}

// P9.1 to P9.3, P9.5: the power goes behind the operation that follows a call: the call goes well.
func TestThePowerGoesBehindCalls(t *testing.T) {
	for name, d := range beginnings(t) {
		for _, c := range calls() {
			got := d.Copy()
			well(t, got.Arm(api.Arm{After: len(c.ops) + 1}))
			if e := c.do(got); e != api.OK || got.Off() {
				t.Fatalf("%s: %s = %d, off %v", name, c.name, e, got.Off())
			}
			if e := got.Fence(); e != api.ErrOff {
				t.Fatalf("%s: %s, Fence = %d", name, c.name, e)
			}
		}
	}
}

// P9.1 to P9.3, P9.5: arms that wait behind the first one see no operation of the call that it cut off, and the next call is cut off by them.
func TestArmsInARow(t *testing.T) {
	for _, c := range calls() {
		for after := 1; after <= len(c.ops); after++ {
			d := made(t, 128)
			well(t, d.Arm(api.Arm{After: after}, api.Arm{After: 1}, api.Arm{After: len(c.ops)}))
			for i, done := range []int{after, 1, len(c.ops)} {
				ops := d.Ops()
				if e := c.do(d); e != api.ErrOff || d.Ops()-ops != done {
					t.Fatalf("%s, arm %d = %d, %d operations, not %d", c.name, i, e, d.Ops()-ops, done)
				}
				if e := c.do(d); e != api.ErrOff || d.Ops()-ops != done {
					t.Fatalf("%s while it is off = %d", c.name, e)
				}
				well(t, d.Wake())
			}
			well(t, c.do(d))
		}
	}
}

// P9.6: behind a call that went well its range is as it was seen, whatever lines keep, also when the lines' other bytes are stored to, flushed and fenced, and the power goes again.
func TestItLasts(t *testing.T) {
	for name, d := range beginnings(t) {
		for _, c := range calls() {
			got := d.Copy()
			well(t, c.do(got))
			seen := got.Image()[c.at : c.at+c.n]
			lasts(t, name+": "+c.name, got, c, seen)
			storeAround(t, got, c)
			lasts(t, name+": "+c.name+", stores around it", got, c, seen)
			well(t, got.Flush(c.at))
			storeAround(t, got, c)
			well(t, got.Fence())
			lasts(t, name+": "+c.name+", stores around it, a Fence", got, c, seen)
		}
	}
}

// storeAround stores bytes just ahead of the range and just behind it, in its words, too.
func storeAround(t *testing.T, d *pmem.Device, c call) {
	t.Helper()
	if c.at > 0 {
		from := max(0, c.at-9)
		well(t, d.Store(from, []byte(other(c.at-from))))
	}
	if end := c.at + c.n; end < d.Size() {
		well(t, d.Store(end, []byte(other(min(9, d.Size()-end)))))
	}
}

// lasts lets the power go with each choice of what lines keep, twice.
func lasts(t *testing.T, name string, d *pmem.Device, c call, seen []byte) {
	t.Helper()
	for _, keep := range keeps(d) {
		lost := d.Copy()
		well(t, lost.Crash(keep...))
		for range 2 {
			if b := lost.Image()[c.at : c.at+c.n]; !bytes.Equal(b, seen) {
				t.Fatalf("%s, lines keeping %v: % x, not % x", name, keep, b, seen)
			}
			well(t, lost.Wake(), lost.Crash(1, 1))
		}
	}
}

// anyCall is a call of any kind on a device of so many bytes.
func anyCall(r *rand.Rand, size int) call {
	at := r.IntN(size)
	n := 1 + r.IntN(min(size-at, 1+r.IntN(80)))
	switch r.IntN(7) {
	case 0, 1:
		return rangeCall(at, n)
	case 2:
		return publishCall(at/8*8, r.Uint64())
	case 3:
		return fieldCall(at, uint8(r.Uint64()), 1)
	case 4:
		return fieldCall(min(at, size-2), uint16(r.Uint64()), 2)
	case 5:
		return fieldCall(min(at, size-8), r.Uint64(), 8)
	}
	return bytesCall(at, anyBytes(r, n))
}

func anyBytes(r *rand.Rand, n int) string {
	b := make([]byte, n)
	for i := range b {
		b[i] = byte(r.Uint32())
	}
	return string(b)
}

// P9.6: long rows of calls, of stores, flushes and fences of others between them, and of losses of power, byte by byte: what a call answered OK to stays until it is stored anew.
func TestItLastsThroughLongRows(t *testing.T) {
	const size = 256
	r := rand.New(rand.NewPCG(9, 6))
	d := from(t, rising(size))
	last := map[int]byte{} // of each byte that lasts what it is
	for range 20000 {
		switch r.IntN(8) {
		case 0, 1, 2:
			c := anyCall(r, size)
			well(t, c.do(d))
			b := d.Image()
			for a := c.at; a < c.at+c.n; a++ {
				last[a] = b[a]
			}
		case 3, 4, 5:
			at := r.IntN(size)
			b := anyBytes(r, 1+r.IntN(min(20, size-at)))
			well(t, d.Store(at, []byte(b)))
			for a := at; a < at+len(b); a++ {
				delete(last, a)
			}
		case 6:
			well(t, d.Flush(r.IntN(size)))
		case 7:
			if r.IntN(4) == 0 {
				well(t, d.Fence())
			}
		}
		lost := d.Copy()
		well(t, lost.Crash(r.IntN(9), r.IntN(9), r.IntN(9), r.IntN(9)))
		b := lost.Image()
		for a, was := range last {
			if b[a] != was {
				t.Fatalf("byte %d is %x; %x was made to last", a, b[a], was)
			}
		}
		if r.IntN(30) == 0 {
			well(t, lost.Wake())
			d = lost
		}
	}
}

// P9.7: of a line with one content: the power goes behind each operation of Publish, and behind it, whatever the line keeps: the word is what it was, or the new one, and all others are as they were; behind it, it is the new one.
func TestPublishedWhole(t *testing.T) {
	image := rising(192)
	for at := 0; at < 192; at += 8 {
		was, _ := persist.Word(from(t, image), at)
		for _, v := range []uint64{0, 1, was, ^was, was ^ 1, was ^ 1<<63, 0x5555aaaa3333cccc} {
			found := [3]map[string]bool{{}, {}, {}}
			for after := range 4 {
				for keep := range 3 {
					lost := cutOff(t, from(t, image), at, v, after, keep)
					next := image[:at] + lowest(v, 8) + image[at+8:]
					if lost != next && (after == 0 || after == 3 || lost != image) {
						t.Fatalf("Publish(%d, %x), the power going behind %d, the line keeping %d: % x", at, v, after, keep, lost)
					}
					if after < 3 {
						found[after][lost] = true
					}
				}
			}
			if v != was && (len(found[1]) != 2 || len(found[2]) != 2) {
				t.Fatalf("Publish(%d, %x): the line can't keep both", at, v)
			}
		}
	}
}

// cutOff is the image that is left when the power goes behind the after-th operation of Publish (0: behind the call), each line keeping its content number keep.
func cutOff(t *testing.T, d *pmem.Device, at int, v uint64, after, keep int) string {
	t.Helper()
	lines := []int{keep, keep, keep}
	if after == 0 {
		well(t, persist.Publish(d, at, v), d.Crash(lines...))
		return string(d.Image())
	}
	well(t, d.Arm(api.Arm{After: after, Keep: lines}))
	if e := persist.Publish(d, at, v); e != api.ErrOff {
		t.Fatalf("Publish(%d, %x), the power going behind %d = %d", at, v, after, e)
	}
	return string(d.Image())
}

// P9.7: other lines may have several contents, of which they keep any; the line of the word has one.
func TestPublishedWholeBesideOthers(t *testing.T) {
	d := from(t, rising(128))
	well(t, d.Store8(64, 1), d.Store8(72, 2), d.Flush(64), d.Store8(80, 3))
	was := string(d.Contents(0)[0])
	for after := 1; after <= 3; after++ {
		for k := range 2 {
			for other := range 4 {
				got := d.Copy()
				well(t, got.Arm(api.Arm{After: after, Keep: []int{k, other}}))
				if e := persist.Publish(got, 16, 9); e != api.ErrOff {
					t.Fatalf("Publish = %d", e)
				}
				if b := string(got.Image()[:64]); b != was && b != was[:16]+lowest(9, 8)+was[24:] {
					t.Fatalf("the power going behind %d: % x", after, b)
				}
			}
		}
	}
}

// P9.3, P9.7: what is published leans on nothing that lines keep: over and over, each word goes on from what was published last.
func TestPublishedOverAndOver(t *testing.T) {
	r := rand.New(rand.NewPCG(9, 7))
	d := made(t, 128)
	var words [16]uint64
	for range 5000 {
		i, v := r.IntN(16), r.Uint64()
		after := 1 + r.IntN(5)
		well(t, d.Arm(api.Arm{After: after, Keep: []int{r.IntN(3), r.IntN(3)}}))
		e := persist.Publish(d, i*8, v)
		for e == api.OK && !d.Off() {
			words[i] = v
			d.Fence()
		}
		well(t, d.Wake())
		got, _ := persist.Word(d, i*8)
		if got != v && (got != words[i] || after > 2) {
			t.Fatalf("word %d is %x, neither %x nor %x", i, got, words[i], v)
		}
		words[i] = got
		for j, w := range words {
			checkWord(t, d, j*8, w, api.OK)
		}
	}
}
