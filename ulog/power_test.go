package ulog_test

import (
	"bytes"
	"fmt"
	"maps"
	"math/rand/v2"
	"slices"
	"testing"

	"vellum/api"
	"vellum/pmem"
)

// cutOff lets the power go behind each operation of a call, with each choice of what lines keep: it answers ErrOff, and has done the operations up to there alone. What is left is handed on, the power being back.
func (p place) cutOff(t *testing.T, name string, d *pmem.Device, c call, then func(name string, left *pmem.Device)) {
	t.Helper()
	stopped := d.Copy()
	for i, o := range c.ops {
		well(t, o(stopped))
		for _, keep := range keeps(stopped) {
			got, want := d.Copy(), stopped.Copy()
			well(t, got.Arm(api.Arm{After: i + 1, Keep: keep}), want.Crash(keep...))
			at := fmt.Sprintf("%s, the power going behind %d of %s, lines keeping %v", name, i+1, c.name, keep)
			if n, e := c.do(p.open(t, got)); n != 0 || e != api.ErrOff {
				t.Fatalf("%s = %d, %d", at, n, e)
			}
			// Behind a loss of power each line has one content: so the images tell all of them.
			if got.Ops() != want.Ops() || !got.Off() || !bytes.Equal(got.Image(), want.Image()) {
				t.Fatalf("%s: %d operations, off %v, % x", at, got.Ops(), got.Off(), got.Image())
			}
			well(t, got.Wake())
			then(at, got)
		}
	}
}

// scene is a device with a log without records, and extents of it.
type scene struct {
	name string
	place
	image   string
	extents []api.Extent
}

// scenes is small ones: of one record and of several, in one line and over the edges of lines, beside the log and at the device's ends, overlapping.
func scenes() []scene {
	one, two := place{128, 128}, place{64, 192}
	return []scene{
		{"one byte", one, one.empty(320), []api.Extent{{At: 64, Len: 1}}},
		{"two words", one, one.empty(320), []api.Extent{{At: 68, Len: 8}}},
		{"over an edge of lines", two, two.empty(384), []api.Extent{{At: 316, Len: 9}}},
		{"ahead of the log and behind it", one, one.empty(320), []api.Extent{{At: 120, Len: 8}, {At: 256, Len: 8}}},
		{"a full line", one, one.empty(320), []api.Extent{{At: 256, Len: 40}}},
		{"the same twice", one, one.empty(320), []api.Extent{{At: 127, Len: 1}, {At: 127, Len: 1}}},
		{"overlapping", two, two.empty(320), []api.Extent{{At: 256, Len: 12}, {At: 260, Len: 6}}},
		{"full", two, two.empty(320), []api.Extent{{At: 256, Len: 1}, {At: 264, Len: 1}, {At: 319, Len: 1}, {At: 257, Len: 8}}},
	}
}

// bytesOf is the bytes of extents of an image.
func bytesOf(image []byte, extents []api.Extent) string {
	var l []byte
	for _, x := range extents {
		l = append(l, image[x.At:x.At+x.Len]...)
	}
	return string(l)
}

// P11.3, P11.7: the power goes behind each operation of a Write: the log holds no record, or all of them; each comes about; all else is as it was.
func TestThePowerGoesWithinWrite(t *testing.T) {
	for _, s := range scenes() {
		none, all := 0, 0
		want := of(s.image, s.extents)
		s.cutOff(t, s.name, from(t, s.image), s.write(s.image, s.extents...), func(name string, left *pmem.Device) {
			image := string(left.Image())
			if image[:s.at] != s.image[:s.at] || image[s.at+8:s.at+64] != s.image[s.at+8:s.at+64] || image[s.at+s.size:] != s.image[s.at+s.size:] {
				t.Fatalf("%s: bytes beside the records are changed", name)
			}
			l, e := s.open(t, left).Records()
			switch {
			case e == api.OK && len(l) == 0:
				none++
			case e == api.OK && alike(l, want):
				all++
			default:
				t.Fatalf("%s: Records = %v, %d", name, l, e)
			}
		})
		if none == 0 || all == 0 {
			t.Errorf("%s: none %d times, all %d", s.name, none, all)
		}
	}
}

// P11.3: the number is told behind the records: as long as that word is not stored there is none, whatever lines keep; from its Fence on all are there.
func TestTheNumberIsToldLast(t *testing.T) {
	for _, s := range scenes() {
		ops := len(s.writing(s.image, s.extents))
		for after := 1; after <= ops; after++ {
			for k := range 20 {
				d := from(t, s.image)
				well(t, d.Arm(api.Arm{After: after, Keep: slices.Repeat([]int{k}, 6)}))
				if e := s.open(t, d).Write(s.extents...); e != api.ErrOff {
					t.Fatalf("%s: Write, the power going behind %d = %d", s.name, after, e)
				}
				well(t, d.Wake())
				l, e := s.open(t, d).Records()
				if e != api.OK || after <= ops-3 && len(l) != 0 || after == ops && len(l) != len(s.extents) {
					t.Fatalf("%s: behind %d of %d operations: Records = %v, %d", s.name, after, ops, l, e)
				}
			}
		}
	}
}

// P11.7: Writes that are cut off over and over, of these extents and of others, by turns in any order: all images that can come about.
func TestWriteOverAndOver(t *testing.T) {
	p := place{64, 128}
	image := p.empty(256)
	lists := [][]api.Extent{{{At: 192, Len: 8}, {At: 255, Len: 1}}, {{At: 200, Len: 33}}}
	seen := map[string]bool{image: true}
	for next := []string{image}; len(next) > 0; next = next[1:] {
		for i, x := range lists {
			d := from(t, next[0])
			if n := next[0][64:72]; n != zeros(8) {
				// What was told of the one list may stand there while the other one is asked for.
				p.refuses(t, "records are there", d, api.ErrState, asking(x...))
				continue
			}
			p.cutOff(t, fmt.Sprintf("list %d", i), d, p.write(next[0], x...), func(name string, left *pmem.Device) {
				l, e := p.open(t, left).Records()
				if e != api.OK || len(l) != 0 && !alike(l, of(image, x)) {
					t.Fatalf("%s: Records = %v, %d", name, l, e)
				}
				if b := string(left.Image()); !seen[b] {
					seen[b] = true
					next = append(next, b)
				}
			})
		}
	}
	if len(seen) < 20 {
		t.Errorf("%d images", len(seen))
	}
}

// P11.4: the power goes behind each operation of a Clear: the log holds what it held, or none.
func TestThePowerGoesWithinClear(t *testing.T) {
	for _, s := range scenes() {
		d := from(t, s.image)
		well(t, s.open(t, d).Write(s.extents...))
		was, _ := s.held(string(d.Image()))
		none, all := 0, 0
		s.cutOff(t, s.name, d, s.clear(), func(name string, left *pmem.Device) {
			l, e := s.open(t, left).Records()
			switch {
			case e == api.OK && len(l) == 0:
				none++
			case e == api.OK && alike(l, was):
				all++
			default:
				t.Fatalf("%s: Records = %v, %d", name, l, e)
			}
		})
		if none == 0 || all == 0 {
			t.Errorf("%s: none %d times, all %d", s.name, none, all)
		}
	}
}

// P11.3, P11.4, P11.6: also where lines had several contents, and were flushed: a call has done its operations up to there, and nothing more.
func TestThePowerGoesOnBusyDevices(t *testing.T) {
	p := place{128, 128}
	clean := from(t, p.laid(320, 2, record(66, "abcdefgh"), record(260, "ij")))
	stored := clean.Copy()
	well(t, stored.Store8(64, 1), stored.Store8(144, 2), stored.Store8(256, 3), stored.Store8(312, 4))
	flushed := stored.Copy()
	well(t, flushed.Flush(64), flushed.Flush(128), flushed.Flush(192), flushed.Flush(256), flushed.Store8(72, 5))
	for name, d := range map[string]*pmem.Device{"clean": clean, "stored": stored, "flushed": flushed} {
		then := func(string, *pmem.Device) {}
		held, _ := p.held(string(d.Image()))
		p.cutOff(t, name, d, p.rollback(held), then)
		p.cutOff(t, name, d, p.clear(), then)
		none := d.Copy()
		well(t, none.Store8(128, 0))
		p.cutOff(t, name, none, p.write(string(none.Image()), api.Extent{At: 70, Len: 5}, api.Extent{At: 318, Len: 2}), then)
	}
}

// P11.6: the power goes behind each operation of a Rollback of records that were laid by hand, overlapping ones of unlike bytes among them; then a Rollback that is not cut off comes to what it would have come to.
func TestThePowerGoesWithinRollback(t *testing.T) {
	p := place{128, 192}
	for name, records := range map[string][]string{
		"one":                 {record(64, "a")},
		"over lines":          {record(380, "abcdefgh")},
		"overlapping":         {record(64, "aaaaaaaaa"), record(66, "bbbb")},
		"in the other order":  {record(66, "bbbb"), record(64, "aaaaaaaaa")},
		"of several lines":    {record(127, "a"), record(320, "b"), record(511, "c"), record(319+64, "de")},
		"as long as the room": {record(400, rising(20)), record(330, rising(40))},
	} {
		d := from(t, p.laid(512, uint64(len(records)), records...))
		held, is := p.held(string(d.Image()))
		if !is {
			t.Fatalf("%s: no log's contents", name)
		}
		whole := d.Copy()
		if n, e := p.open(t, whole).Rollback(); n != len(records) || e != api.OK {
			t.Fatalf("%s: Rollback = %d, %d", name, n, e)
		}
		p.cutOff(t, name, d, p.rollback(held), func(at string, left *pmem.Device) {
			if n, e := p.open(t, left).Rollback(); n != 0 && n != len(records) || e != api.OK {
				t.Fatalf("%s: Rollback = %d, %d", at, n, e)
			}
			if !bytes.Equal(left.Image(), whole.Image()) {
				t.Fatalf("%s: then % x", at, left.Image())
			}
		})
	}
}

// settled makes a Rollback that is not cut off: the extents are what they were, and last; there are no records, and nothing more is to be done.
func (s scene) settled(t *testing.T, name string, d *pmem.Device) {
	t.Helper()
	got := d.Copy()
	held, e := s.open(t, got).Records()
	if e != api.OK || len(held) != 0 && !alike(held, of(s.image, s.extents)) {
		t.Fatalf("%s: Records = %v, %d", name, held, e)
	}
	if n, e := s.open(t, got).Rollback(); n != len(held) || e != api.OK {
		t.Fatalf("%s: Rollback = %d, %d; not %d", name, n, e, len(held))
	}
	old := bytesOf([]byte(s.image), s.extents)
	for _, keep := range append(keeps(got), nil) {
		lost := got.Copy()
		well(t, lost.Crash(keep...))
		if b := bytesOf(lost.Image(), s.extents); b != old {
			t.Fatalf("%s, lines keeping %v: the extents are % x, not % x", name, keep, b, old)
		}
		well(t, lost.Wake())
		s.tells(t, name, lost, nil, api.OK)
	}
	s.goesWell(t, name+", once more", got, s.rollback(nil))
}

// changes is the operations that change all bytes of the extents, and flush some of the lines, with a Fence within and at the end.
func (s scene) changes() []op {
	var l []op
	for i, x := range s.extents {
		l = append(l, storing(x.At, string(bytes.Repeat([]byte{byte(0xa0 + i)}, x.Len)))...)
		if i%2 == 0 {
			l = append(append(l, flushing(x.At, x.Len)...), (*pmem.Device).Fence)
		}
		l = append(l, storing(x.At, zeros(1))...)
	}
	last := s.extents[len(s.extents)-1]
	return append(append(l, flushing(last.At, last.Len)...), (*pmem.Device).Fence)
}

// P11.7: behind a Write the extents are changed; the power goes anywhere, also within Rollback, over and over, with each choice of what lines keep: all images that can come about. From each one a Rollback that is not cut off brings back what was.
func TestRollbackOverAndOver(t *testing.T) {
	for _, s := range scenes() {
		seen := map[string]bool{}
		left := func(name string, d *pmem.Device) {
			if b := string(d.Image()); !seen[b] {
				seen[b] = true
				s.settled(t, name, d)
			}
		}
		records := of(s.image, s.extents)
		d := from(t, s.image)
		well(t, s.open(t, d).Write(s.extents...))
		for i, change := range append(s.changes(), nil) {
			s.settled(t, fmt.Sprintf("%s, %d changes", s.name, i), d)
			for _, keep := range keeps(d) {
				lost := d.Copy()
				well(t, lost.Crash(keep...), lost.Wake())
				left(fmt.Sprintf("%s, the power going behind %d changes", s.name, i), lost)
			}
			s.cutOff(t, fmt.Sprintf("%s, %d changes", s.name, i), d, s.rollback(records), left)
			if change != nil {
				well(t, change(d))
			}
		}
		done := map[string]bool{}
		for again := true; again; {
			again = false
			for _, image := range slices.Sorted(maps.Keys(seen)) {
				if held, _ := s.held(image); !done[image] && len(held) > 0 {
					again = true
					s.cutOff(t, s.name, from(t, image), s.rollback(records), left)
				}
				done[image] = true
			}
		}
		if len(seen) < 4 {
			t.Errorf("%s: %d images", s.name, len(seen))
		}
	}
}

// P11.3, P11.4, P11.6: the power goes behind the operation that follows a call: the call goes well.
func TestThePowerGoesBehindCalls(t *testing.T) {
	for _, s := range scenes() {
		d := from(t, s.image)
		for _, c := range []call{s.write(s.image, s.extents...), s.clear(), s.write(s.image, s.extents...), s.rollback(of(s.image, s.extents))} {
			got := d.Copy()
			well(t, got.Arm(api.Arm{After: len(c.ops) + 1}))
			if n, e := c.do(s.open(t, got)); n != c.want || e != api.OK || got.Off() {
				t.Fatalf("%s: %s = %d, %d, off %v", s.name, c.name, n, e, got.Off())
			}
			if e := got.Fence(); e != api.ErrOff {
				t.Fatalf("%s: %s, Fence = %d", s.name, c.name, e)
			}
			d = s.goesWell(t, s.name, d, c)
		}
	}
}

// P11.3, P11.4, P11.6: arms that wait behind the first one see no operation of a call that was cut off; while the device is off nothing is done.
func TestArmsInARow(t *testing.T) {
	p := place{128, 192}
	image := p.laid(512, 1, record(64, "abc"))
	held, _ := p.held(image)
	for _, c := range []call{p.rollback(held), p.clear(), p.write(p.empty(512), api.Extent{At: 70, Len: 9}, api.Extent{At: 500, Len: 1})} {
		for after := 1; after <= len(c.ops); after++ {
			d := from(t, image)
			if c.name == "Write" {
				d = from(t, p.empty(512))
			}
			well(t, d.Arm(api.Arm{After: after}, api.Arm{After: 1}))
			for range 2 {
				if n, e := c.do(p.open(t, d)); n != 0 || e != api.ErrOff || d.Ops() != after {
					t.Fatalf("%s, an arm of %d: %d, %d, %d operations", c.name, after, n, e, d.Ops())
				}
			}
			well(t, d.Wake())
			for range 2 {
				if e := p.open(t, d).Clear(); e != api.ErrOff || d.Ops() != after+1 {
					t.Fatalf("%s, an arm of %d, then Clear: %d, %d operations", c.name, after, e, d.Ops()-after)
				}
			}
			well(t, d.Wake(), p.open(t, d).Clear())
		}
	}
}

// P11.7: long rows of Writes, changes, Clears and Rollbacks on one device, cut off anywhere: what lasts is what the chapter says, byte by byte.
func TestLongRows(t *testing.T) {
	p := place{128, 256}
	const size = 640
	r := rand.New(rand.NewPCG(11, 7))
	d := from(t, p.empty(size))
	rolled, lost := 0, 0
	for round := range 6000 {
		keep := make([]int, size/64)
		for i := range keep {
			keep[i] = r.IntN(12)
		}
		image := string(d.Image())
		extents := p.anyExtents(r, size, 5, 40)
		if takes(extents) > p.size-64 {
			continue
		}
		well(t, d.Arm(api.Arm{After: 1 + r.IntN(90), Keep: keep}))
		name := fmt.Sprintf("round %d, %v", round, extents)
		wrote := p.open(t, d).Write(extents...)
		for _, x := range extents {
			b := bytes.Repeat([]byte{byte(r.Uint32())}, x.Len)
			if e := d.Store(x.At, b); e == api.OK && r.IntN(2) == 0 {
				d.Flush(x.At)
			}
		}
		for !d.Off() {
			p.open(t, d).Rollback()
			d.Fence()
		}
		well(t, d.Wake())
		held, e := p.open(t, d).Records()
		if e != api.OK || len(held) != 0 && !alike(held, of(image, extents)) {
			t.Fatalf("%s: Write = %d, then Records = %v, %d", name, wrote, held, e)
		}
		for r.IntN(3) == 0 {
			well(t, d.Arm(api.Arm{After: 1 + r.IntN(20), Keep: keep}))
			for !d.Off() {
				p.open(t, d).Rollback()
				d.Fence()
			}
			well(t, d.Wake())
			lost++
		}
		if n, e := p.open(t, d).Rollback(); n > len(held) || e != api.OK {
			t.Fatalf("%s: Rollback = %d, %d", name, n, e)
		} else if n > 0 {
			rolled++
		}
		well(t, d.Crash(keep...), d.Wake())
		if b := string(d.Image()); bytesOf([]byte(b), extents) != bytesOf([]byte(image), extents) {
			t.Fatalf("%s: Write = %d, the extents are not what they were", name, wrote)
		}
		p.tells(t, name, d, nil, api.OK)
		at := 64 + 8*r.IntN(8)
		well(t, d.Store8(at, r.Uint64()), d.Flush(at), d.Fence())
	}
	if rolled < 300 || lost < 300 {
		t.Errorf("%d times brought back, %d times cut off", rolled, lost)
	}
}
