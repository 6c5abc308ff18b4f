package ulog_test

import (
	"fmt"
	"math"
	"math/rand/v2"
	"slices"
	"testing"

	"vellum/api"
	"vellum/pmem"
	"vellum/ulog"
)

// busy is devices of 512 bytes with a log at 128 of 192 bytes and the number 0: whose lines have one content; several; of which some are flushed, all of them or as they were ahead of a store.
func busy(t *testing.T) (place, map[string]*pmem.Device) {
	t.Helper()
	p := place{128, 192}
	clean := from(t, p.empty(512))
	stored := clean.Copy()
	well(t, stored.Store8(64, 1), stored.Store(125, []byte("abc")), stored.Store8(136, 2), stored.Store8(200, 3), stored.Store8(256, 4), stored.Store8(504, 5))
	flushed := stored.Copy()
	for at := 0; at < 512; at += 64 {
		well(t, flushed.Flush(at))
	}
	ahead := flushed.Copy()
	well(t, ahead.Store8(72, 6), ahead.Store8(144, 7), ahead.Store8(192, 8), ahead.Store8(264, 9), ahead.Store8(320, 10))
	return p, map[string]*pmem.Device{"clean": clean, "stored": stored, "flushed": flushed, "flushed ahead of stores": ahead}
}

// P11.3: each extent that may be and that there is room for, one by one: the operations, and what the log holds then.
func TestWriteOfOneExtent(t *testing.T) {
	p, devices := busy(t)
	written := 0
	for name, d := range devices {
		image := string(d.Image())
		for at := 64; at < 512; at++ {
			for n := 1; n <= 104; n++ {
				if !p.may(uint64(at), uint64(n), 512) || name != "flushed ahead of stores" && (at+n)%5 != 0 {
					continue
				}
				x := api.Extent{At: at, Len: n}
				got := p.goesWell(t, fmt.Sprintf("%s, %v", name, x), d, p.write(image, x))
				p.tells(t, name, got, of(image, []api.Extent{x}), api.OK)
				written++
			}
		}
	}
	if written < 15000 {
		t.Errorf("%d extents", written)
	}
}

// anyExtents is extents of a device of so many bytes that may be; they touch its ends and the log's, and overlap.
func (p place) anyExtents(r *rand.Rand, size, most, long int) []api.Extent {
	var sides []api.Piece
	for _, side := range []api.Piece{{From: 64, To: p.at}, {From: p.at + p.size, To: size}} {
		if side.From < side.To {
			sides = append(sides, side)
		}
	}
	var l []api.Extent
	for range r.IntN(most + 1) {
		side := sides[r.IntN(len(sides))]
		n := 1 + r.IntN(min(side.To-side.From, long))
		at := side.From + r.IntN(side.To-side.From-n+1)
		switch r.IntN(4) {
		case 0:
			at = side.From
		case 1:
			at = side.To - n
		}
		l = append(l, api.Extent{At: at, Len: n})
	}
	return l
}

// P11.3, P11.7: lists of extents that touch, that overlap, that are the same, in any order: the operations, and what the log holds then.
func TestWriteOfSeveralExtents(t *testing.T) {
	p, devices := busy(t)
	lists := [][]api.Extent{
		{{At: 64, Len: 64}},
		{{At: 320, Len: 104}},
		{{At: 408, Len: 104}},
		{{At: 64, Len: 8}, {At: 72, Len: 8}, {At: 80, Len: 8}, {At: 88, Len: 8}},
		{{At: 88, Len: 8}, {At: 80, Len: 8}, {At: 72, Len: 8}, {At: 64, Len: 8}},
		{{At: 64, Len: 1}, {At: 64, Len: 1}, {At: 64, Len: 1}, {At: 64, Len: 1}},
		{{At: 64, Len: 40}, {At: 90, Len: 38}},
		{{At: 120, Len: 8}, {At: 320, Len: 8}, {At: 504, Len: 8}, {At: 127, Len: 1}},
		{{At: 511, Len: 1}, {At: 320, Len: 1}, {At: 127, Len: 1}, {At: 64, Len: 1}},
		{{At: 383, Len: 2}, {At: 380, Len: 9}},
	}
	r := rand.New(rand.NewPCG(11, 3))
	for range 3000 {
		if l := p.anyExtents(r, 512, 4, 30); takes(l) <= 128 {
			lists = append(lists, l)
		}
	}
	for name, d := range devices {
		image := string(d.Image())
		for _, l := range lists {
			at := fmt.Sprintf("%s, %v", name, l)
			got := p.goesWell(t, at, d, p.write(image, l...))
			p.tells(t, at, got, of(image, l), api.OK)
		}
	}
}

// P11.3: a record, byte by byte.
func TestBytesOfARecord(t *testing.T) {
	p := place{128, 192}
	d := from(t, p.empty(512))
	well(t, p.open(t, d).Write(api.Extent{At: 323, Len: 9}, api.Extent{At: 511, Len: 1}))
	old, last := rising(512)[323:332], rising(512)[511:]
	sum := func(b string) string {
		register := ^uint32(0)
		for _, x := range []byte(b) {
			for i := range 8 {
				unlike := (uint32(x>>i) ^ register) & 1
				register >>= 1
				if unlike == 1 {
					register ^= 0x82F63B78
				}
			}
		}
		register = ^register
		return string([]byte{byte(register), byte(register >> 8), byte(register >> 16), byte(register >> 24), 0, 0, 0, 0})
	}
	first := "\x43\x01\x00\x00\x00\x00\x00\x00\x09\x00\x00\x00\x00\x00\x00\x00"
	second := "\xff\x01\x00\x00\x00\x00\x00\x00\x01\x00\x00\x00\x00\x00\x00\x00"
	want := first + sum(first+old) + old + zeros(7) + second + sum(second+last) + last + zeros(7)
	image := over(over(rising(512), 128, "\x02"+zeros(7)), 192, want)
	if b := string(d.Image()); b != image {
		t.Fatalf("the log is % x, not % x", b[128:320], image[128:320])
	}
}

// P11.3: what is kept is what is seen, not what is durable.
func TestSeenIsKept(t *testing.T) {
	p := place{128, 192}
	d := from(t, p.empty(512))
	well(t, d.Store(66, []byte("new")), p.open(t, d).Write(api.Extent{At: 64, Len: 8}), d.Crash(), d.Wake())
	want := rising(512)[64:66] + "new" + rising(512)[69:72]
	p.tells(t, "seen", d, []api.Record{{At: 64, Old: []byte(want)}}, api.OK)
	if n, e := p.open(t, d).Rollback(); n != 1 || e != api.OK {
		t.Fatalf("Rollback = %d, %d", n, e)
	}
	if b := string(d.Image()[64:72]); b != want {
		t.Errorf("brought back % x, not % x", b, want)
	}
}

// asking is a Write of extents.
func asking(extents ...api.Extent) func(l *ulog.Log) (int, api.Errno) {
	return func(l *ulog.Log) (int, api.Errno) { return 0, l.Write(extents...) }
}

// P11.3: each extent on a device and around it, and those at the ends of ints: which may be; alone, and beside one that may be.
func TestWhichExtentsMayBe(t *testing.T) {
	fits := api.Extent{At: 64, Len: 1}
	for _, x := range []struct {
		place
		bytes int
	}{{place{64, 128}, 192}, {place{64, 128}, 256}, {place{128, 128}, 256}, {place{128, 192}, 512}} {
		d := from(t, x.empty(x.bytes))
		var numbers []int
		for n := -9; n <= x.bytes+9; n++ {
			numbers = append(numbers, n)
		}
		l, may := x.open(t, d), 0
		for _, at := range append(numbers, odd()...) {
			for _, n := range append(numbers, odd()...) {
				e := api.Extent{At: at, Len: n}
				want := api.ErrRange
				if at >= 0 && n >= 0 && x.may(uint64(at), uint64(n), x.bytes) {
					may++
					if want = api.OK; takes([]api.Extent{e}) > x.size-64 {
						want = api.ErrFull
					}
				}
				if got := l.Write(e); got != want {
					t.Fatalf("%v: Write(%v) = %d, not %d", x, e, got, want)
				}
				if want == api.OK {
					well(t, l.Clear())
				} else if ops := d.Ops(); l.Write(e, fits) == api.OK || l.Write(fits, e) == api.OK || d.Ops() != ops {
					t.Fatalf("%v: Write(%v) beside %v went well", x, e, fits)
				}
			}
		}
		first, second := x.at-64, x.bytes-x.at-x.size
		if want := (first*(first+1) + second*(second+1)) / 2; may != want {
			t.Errorf("%v: %d extents, not %d", x, may, want)
		}
	}
}

// P11.3: the number goes ahead of extents that may not be, these ahead of a lack of room; wherever in the list they stand. Nothing is done.
func TestWhichErrorComesFirst(t *testing.T) {
	p := place{128, 192}
	one, wrong, long := api.Extent{At: 64, Len: 1}, api.Extent{At: 63, Len: 1}, api.Extent{At: 320, Len: 192}
	for _, n := range []uint64{0, 1, 2, 4, 256, 1 << 32, 1 << 63, math.MaxUint64} {
		d := from(t, over(rising(512), 128, word(n)))
		well(t, d.Store8(64, 1), d.Flush(64))
		for _, x := range []struct {
			list []api.Extent
			want api.Errno
		}{
			{nil, api.OK}, {[]api.Extent{}, api.OK}, {[]api.Extent{{}}, api.ErrRange},
			{[]api.Extent{wrong}, api.ErrRange}, {[]api.Extent{one, wrong}, api.ErrRange}, {[]api.Extent{wrong, one}, api.ErrRange},
			{[]api.Extent{long}, api.ErrFull}, {[]api.Extent{one, long}, api.ErrFull}, {[]api.Extent{long, one}, api.ErrFull},
			{[]api.Extent{long, wrong}, api.ErrRange}, {[]api.Extent{wrong, long}, api.ErrRange}, {[]api.Extent{long, long, one, wrong}, api.ErrRange},
			{[]api.Extent{one, one, one, one, one}, api.ErrFull}, {[]api.Extent{one, one, one, one, one, wrong}, api.ErrRange},
			{slices.Repeat([]api.Extent{one}, 50000), api.ErrFull}, {append(slices.Repeat([]api.Extent{one}, 50000), wrong), api.ErrRange},
		} {
			want := x.want
			if n != 0 {
				want = api.ErrState
			}
			name := fmt.Sprintf("the number %d, Write of %d extents", n, len(x.list))
			p.refuses(t, name, d, want, asking(x.list...))
		}
	}
}

// P11.3: a number that is not 0 in any one of its bytes is ErrState; whatever stands in the bytes behind it is not looked at, and stays.
func TestWhatTheNumberIs(t *testing.T) {
	p := place{128, 192}
	for at := 128; at < 192; at++ {
		d := from(t, over(zeros(512), at, "\x80"))
		one := api.Extent{At: 64, Len: 1}
		if at < 136 {
			p.refuses(t, fmt.Sprint("byte ", at), d, api.ErrState, asking(one))
			p.refuses(t, fmt.Sprint("byte ", at), d, api.ErrState, asking())
			continue
		}
		got := p.goesWell(t, fmt.Sprint("byte ", at), d, p.write(string(d.Image()), one))
		if b := string(got.Image()[136:192]); b != over(zeros(56), at-136, "\x80") {
			t.Errorf("byte %d: behind the number % x", at, b)
		}
	}
}

// P11.3: logs of several sizes: records that take just the room, and 8 bytes more; lengths around each multiple of 8; of one, of several.
func TestJustTheRoom(t *testing.T) {
	for size := 128; size <= 640; size += 64 {
		for _, p := range []place{{64, size}, {128, size}, {192, size}} {
			bytes := p.at + size + 1024
			d := from(t, p.empty(bytes))
			image := string(d.Image())
			end, room := p.at+size, size-64
			ask := func(list ...api.Extent) {
				t.Helper()
				name := fmt.Sprintf("%v, %v", p, list)
				if takes(list) > room {
					p.refuses(t, name, d, api.ErrFull, asking(list...))
					return
				}
				got := p.goesWell(t, name, d, p.write(image, list...))
				p.tells(t, name, got, of(image, list), api.OK)
			}
			for n := max(1, room-24-9); n <= room-24+9; n++ {
				ask(api.Extent{At: end, Len: n})
				ask(api.Extent{At: bytes - n, Len: n})
			}
			for n := room - 32 - 24 - 9; n <= room-32-24+9; n++ {
				if n > 0 {
					ask(api.Extent{At: end, Len: n}, api.Extent{At: end + n, Len: 1})
					ask(api.Extent{At: end, Len: 8}, api.Extent{At: end, Len: n})
				}
			}
			for n := 1; n <= 33; n++ {
				x := api.Extent{At: bytes - n, Len: n}
				most := room / takes([]api.Extent{x})
				ask(slices.Repeat([]api.Extent{x}, most)...)
				ask(slices.Repeat([]api.Extent{x}, most+1)...)
			}
		}
	}
}

// P11.3: the room's last word, and the log's neighbours: a Write that fills the room leaves the bytes ahead of the log and behind it alone, also where these are its extents.
func TestAFullLog(t *testing.T) {
	p := place{128, 192}
	d := from(t, p.empty(512))
	x := []api.Extent{{At: 120, Len: 8}, {At: 320, Len: 8}, {At: 504, Len: 8}, {At: 127, Len: 1}}
	well(t, p.open(t, d).Write(x...))
	b, was := string(d.Image()), p.empty(512)
	if b[:128] != was[:128] || b[136:192] != was[136:192] || b[320:] != was[320:] {
		t.Errorf("bytes beside the records are changed")
	}
	if b[312:320] != rising(512)[127:128]+zeros(7) {
		t.Errorf("the room ends with % x", b[312:320])
	}
}

// P11.3, R5: the extents that are handed in, and the room behind them, are not changed, and nothing sees what becomes of them.
func TestExtentsAreNotKept(t *testing.T) {
	p := place{128, 192}
	d := from(t, p.empty(512))
	room := []api.Extent{{At: 64, Len: 2}, {At: 400, Len: 3}, {At: 70, Len: 1}, {At: 1, Len: 1}, {At: 2, Len: 2}}
	was := slices.Clone(room)
	well(t, p.open(t, d).Write(room[:3]...))
	if !slices.Equal(room, was) {
		t.Errorf("Write changed %v to %v", was, room)
	}
	clear(room)
	p.tells(t, "extents that are changed", d, of(p.empty(512), was[:3]), api.OK)
}

// P11.4: the number 0 is published, whatever it was; the records stay as they lie.
func TestClear(t *testing.T) {
	p, devices := busy(t)
	for name, d := range devices {
		for _, n := range []uint64{0, 1, 2, 255, 1 << 32, 1 << 63, math.MaxUint64} {
			got := d.Copy()
			well(t, got.Store8(128, n))
			after := p.goesWell(t, fmt.Sprintf("%s, the number %d", name, n), got, p.clear())
			p.tells(t, name, after, nil, api.OK)
			well(t, after.Crash(), after.Wake())
			p.tells(t, name+", the power gone", after, nil, api.OK)
		}
	}
	laid := from(t, p.laid(512, 2, record(64, "abc"), record(400, "defghijkl")))
	was := string(laid.Image())
	well(t, p.open(t, laid).Clear(), p.open(t, laid).Clear())
	if b := string(laid.Image()); b != over(was, 128, zeros(8)) || laid.Ops() != 6 {
		t.Errorf("Clear twice: %d operations, % x", laid.Ops(), b[128:320])
	}
}

// P11.3, P11.4: written, cleared and written again over what was there.
func TestWrittenOverOldRecords(t *testing.T) {
	p := place{128, 256}
	d := from(t, p.empty(640))
	r := rand.New(rand.NewPCG(11, 4))
	for round := range 2000 {
		image := string(d.Image())
		x := p.anyExtents(r, 640, 6, 60)
		if takes(x) > 192 {
			p.refuses(t, fmt.Sprint(x), d, api.ErrFull, asking(x...))
			continue
		}
		d = p.goesWell(t, fmt.Sprintf("round %d, %v", round, x), d, p.write(image, x...))
		p.tells(t, fmt.Sprintf("round %d, %v", round, x), d, of(image, x), api.OK)
		if len(x) > 0 {
			p.refuses(t, "Write once more", d, api.ErrState, asking(x...))
		}
		d = p.goesWell(t, fmt.Sprint("round ", round), d, p.clear())
		at := 384 + r.IntN(250)
		well(t, d.Store(at, []byte{byte(r.Uint32()), byte(r.Uint32())}), d.Flush(at))
	}
}
