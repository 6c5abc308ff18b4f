package ulog_test

import (
	"bytes"
	"fmt"
	"math"
	"math/rand/v2"
	"testing"

	"vellum/api"
	"vellum/pmem"
	"vellum/ulog"
)

// checkHeld holds what the log of a device tells, and what its Rollback does, against what lies there.
func (p place) checkHeld(t *testing.T, name string, d *pmem.Device) bool {
	t.Helper()
	want, is := p.held(string(d.Image()))
	if !is {
		p.tells(t, name, d, nil, api.ErrLog)
		p.refuses(t, name+": Rollback", d, api.ErrLog, (*ulog.Log).Rollback)
		return false
	}
	p.tells(t, name, d, want, api.OK)
	p.goesWell(t, name, d, p.rollback(want))
	return true
}

// P11.5, P11.6: logs that were laid by hand, with one bit turned, at each place of the device: what counts is the number and the records that it has, nothing else of the log.
func TestOneBitTurned(t *testing.T) {
	p := place{128, 192}
	for _, x := range []struct {
		n       uint64
		records []string
	}{
		{1, []string{record(64, "abcd")}},
		{2, []string{record(64, "abcdefgh"), record(321, "ijklmnopq")}},
		{1, []string{record(64, "abcdefgh"), record(321, "ijklmnopq")}},
		{4, []string{record(127, "a"), record(320, "b"), record(511, "c"), record(64, "d")}},
		{1, []string{record(400, rising(104))}},
		{0, nil},
	} {
		image := p.laid(512, x.n, x.records...)
		counts := p.at + 64
		for _, r := range x.records[:x.n] {
			counts += len(r)
		}
		d := from(t, image)
		if !p.checkHeld(t, "as it was laid", d) {
			t.Fatalf("%d records are no log's contents", x.n)
		}
		for bit := p.at * 8; bit < (p.at+p.size)*8; bit++ {
			at := bit / 8
			turned := from(t, over(image, at, string([]byte{image[at] ^ 1<<(bit%8)})))
			is := p.checkHeld(t, fmt.Sprintf("%d records, bit %d of byte %d turned", x.n, bit%8, at), turned)
			if at >= p.at+8 && at < p.at+64 || at >= counts {
				if !is {
					t.Fatalf("%d records: byte %d counts", x.n, at)
				}
			} else if is && at >= p.at+64 {
				t.Fatalf("%d records: byte %d does not count", x.n, at)
			}
		}
		for _, at := range []int{0, 63, 64, 127, 320, 511} {
			turned := from(t, over(image, at, "\x00"))
			if !p.checkHeld(t, fmt.Sprintf("byte %d beside the log", at), turned) {
				t.Fatalf("%d records: byte %d beside the log counts", x.n, at)
			}
		}
	}
}

// P11.5, P11.6: numbers that the bytes bear out, and those that they do not.
func TestNumbersOfRecords(t *testing.T) {
	p := place{128, 192}
	records := []string{record(64, "abc"), record(70, "defghijk"), record(400, "l"), record(401, "m")}
	numbers := []uint64{5, 6, 7, 8, 100, 1 << 31, 1 << 32, 1<<32 + 1, 1<<62 + 2, 1 << 63, 1<<63 + 1, math.MaxInt, math.MaxUint64 - 1, math.MaxUint64}
	for lie := range len(records) + 1 {
		for n := range uint64(5) {
			d := from(t, p.laid(512, n, append(records[:lie:lie], zeros(128-32*lie))...))
			if is := p.checkHeld(t, fmt.Sprintf("%d of %d", n, lie), d); is != (n <= uint64(lie)) {
				t.Fatalf("%d of %d records: %v", n, lie, is)
			}
		}
		for _, n := range numbers {
			d := from(t, p.laid(512, n, records[:lie]...))
			if p.checkHeld(t, fmt.Sprintf("%d of %d", n, lie), d) {
				t.Fatalf("%d of %d records", n, lie)
			}
		}
	}
	for _, n := range numbers {
		for _, all := range []string{zeros(512), string(bytes.Repeat([]byte{255}, 512)), rising(512)} {
			if d := from(t, over(all, 128, word(n))); p.checkHeld(t, "no records", d) {
				t.Fatalf("%d records of none", n)
			}
		}
	}
}

// P11.5: with the number 0 there are none, whatever lies in the room.
func TestTheNumberZero(t *testing.T) {
	p := place{128, 192}
	for _, all := range []string{zeros(512), string(bytes.Repeat([]byte{255}, 512)), rising(512), p.laid(512, 0, record(64, "abc"))} {
		d := from(t, over(all, 128, zeros(8)))
		p.tells(t, "the number 0", d, nil, api.OK)
		p.goesWell(t, "the number 0", d, p.rollback(nil))
	}
}

// P11.5, P11.6: records with the right sum of an extent that may not be, and of some that may.
func TestExtentsOfRecords(t *testing.T) {
	var numbers []uint64
	for n := range uint64(560) {
		numbers = append(numbers, n)
	}
	for _, n := range odd() {
		numbers = append(numbers, uint64(n))
	}
	numbers = append(numbers, math.MaxUint64, math.MaxUint64-7, math.MaxUint64-63, 1<<63-64, 1<<63+64)
	for _, p := range []place{{128, 192}, {64, 192}, {320, 192}} {
		may := 0
		for _, at := range numbers {
			for _, n := range []uint64{0, 1, 2, 7, 8, 9, 63, 64, 103, 104, 105, 1 << 32, 1<<32 + 1, 1 << 63, 1<<63 + 1, math.MaxInt, math.MaxUint64, -at, 64 - at, 512 - at} {
				// Of a length that the room has not, as many old bytes as there is room for.
				old := rising(int(min(n, 104)))
				d := from(t, p.laid(512, 1, lying(at, n, old, zeros((8-len(old)%8)%8))))
				is := p.checkHeld(t, fmt.Sprintf("%v: a record of %d, %d", p, at, n), d)
				if is != (p.may(at, n, 512) && n <= 104) {
					t.Fatalf("%v: a record of %d, %d: %v", p, at, n, is)
				}
				if is {
					may++
				}
			}
		}
		if may < 1000 {
			t.Errorf("%v: %d extents may be", p, may)
		}
	}
}

// P11.5, P11.6: a wrong extent, sum or end of the last one of several: none of them is told, nothing is brought back.
func TestTheLastRecordIsWrong(t *testing.T) {
	p := place{128, 256}
	good := []string{record(64, "abc"), record(500, "defghijklmno")}
	end := p.at + 64 + len(good[0]) + len(good[1])
	for name, bad := range map[string]string{
		"no bytes":             lying(64, 0, "", ""),
		"ahead of 64":          lying(63, 1, "x", zeros(7)),
		"into the log":         lying(120, 9, "123456789", zeros(7)),
		"in the log":           lying(200, 8, "12345678", ""),
		"the number":           lying(128, 8, "12345678", ""),
		"beyond the device":    lying(633, 8, "12345678", ""),
		"another sum":          over(record(64, "xyz"), 16, "\x01\x02\x03\x04"),
		"a sum of 33 bits":     over(record(64, "xyz"), 20, "\x01"),
		"bytes behind":         lying(64, 3, "xyz", "\x00\x00\x00\x00\x01"),
		"bytes behind, at one": lying(64, 7, "1234567", "\xff"),
		"other old bytes":      over(record(64, "xyz"), 24, "y"),
		"the sum of all":       lying(64, 3, "xyz"+zeros(5), ""),
		"ahead of its end":     lying(64, 8, "1234567", "\x00"),
		"behind its end":       lying(64, 7, "12345678", ""),
	} {
		d := from(t, p.laid(640, 3, good[0], good[1], bad))
		p.tells(t, name, d, nil, api.ErrLog)
		p.refuses(t, name, d, api.ErrLog, (*ulog.Log).Rollback)
		d = from(t, p.laid(640, 3, good[0], bad, good[1]))
		p.tells(t, name, d, nil, api.ErrLog)
		p.refuses(t, name, d, api.ErrLog, (*ulog.Log).Rollback)
	}
	if d := from(t, p.laid(640, 3, good[0], good[1], record(64, "xyz"))); !p.checkHeld(t, "a right one", d) {
		t.Error("a right one is none")
	}
	// Records that end where the room does, and 8 bytes behind that.
	left := p.at + p.size - end
	last := from(t, p.laid(640, 3, good[0], good[1], record(384, rising(left-24))))
	if !p.checkHeld(t, "up to the end", last) {
		t.Error("a record up to the room's end is none")
	}
	beyond := from(t, p.laid(640, 3, good[0], good[1], record(384, rising(left-24+1))))
	p.tells(t, "beyond the end", beyond, nil, api.ErrLog)
	p.refuses(t, "beyond the end", beyond, api.ErrLog, (*ulog.Log).Rollback)
	for short := 8; short < 24; short += 8 {
		near := from(t, p.laid(640, 4, good[0], good[1], record(384, rising(left-24-short)), zeros(short)))
		p.tells(t, "no room for a record's numbers", near, nil, api.ErrLog)
	}
}

// P11.5: what is seen is told, not what is durable.
func TestSeenIsTold(t *testing.T) {
	p := place{128, 192}
	d := from(t, p.empty(512))
	well(t, d.Store(192, []byte(record(64, "abc"))), d.Store8(128, 1))
	p.tells(t, "seen", d, []api.Record{{At: 64, Old: []byte("abc")}}, api.OK)
	well(t, d.Crash(), d.Wake())
	p.tells(t, "durable", d, nil, api.OK)
}

// P11.5, R5: what is told is new memory: no list shares with another one, with the device or with what is told next.
func TestRecordsAreNewMemory(t *testing.T) {
	p := place{128, 256}
	d := from(t, p.empty(640))
	l := p.open(t, d)
	x := []api.Extent{{At: 64, Len: 5}, {At: 64, Len: 5}, {At: 400, Len: 16}, {At: 408, Len: 3}}
	well(t, l.Write(x...))
	want := of(p.empty(640), x)
	first, _ := l.Records()
	for i := range first {
		old := first[i].Old
		clear(old)
		_ = append(old[:0:cap(old)], bytes.Repeat([]byte{7}, cap(old))...)
		if !alike(first[i+1:], want[i+1:]) {
			t.Fatalf("record %d shares with another one", i)
		}
	}
	p.tells(t, "changed by whom it was told", d, want, api.OK)
	second, _ := l.Records()
	well(t, d.Store(64, make([]byte, 8)), d.Store(200, make([]byte, 80)))
	if !alike(second, want) {
		t.Error("records that were told are changed by a Store")
	}
}

// P11.5: no operation: nothing is stored, flushed or fenced, and no arm counts.
func TestRecordsIsNoOperation(t *testing.T) {
	p, devices := busy(t)
	for name, d := range devices {
		for _, n := range []uint64{0, 1, 3} {
			well(t, d.Store(192, []byte(record(64, "abc"))), d.Store8(128, n), d.Arm(api.Arm{After: 1}))
			was := d.Copy()
			for range 3 {
				if l, e := p.open(t, d).Records(); (e == api.OK) != (n <= 1) || len(l) != int(n%3) {
					t.Fatalf("%s: Records of %d = %v, %d", name, n, l, e)
				}
			}
			told(t, name, d, was)
			if e := d.Fence(); e != api.ErrOff {
				t.Fatalf("%s: the arm has counted: %d", name, e)
			}
			well(t, d.Wake())
		}
	}
}

// anyLog is an image with records of any extents and bytes, one of which, or the number, may be spoilt.
func (p place) anyLog(r *rand.Rand, size int) string {
	var records []string
	room, n := p.size-64, uint64(0)
	for _, x := range p.anyExtents(r, size, 8, 40) {
		old := make([]byte, x.Len)
		for i := range old {
			old[i] = byte(r.Uint32())
		}
		if b := record(x.At, string(old)); len(b) <= room {
			records = append(records, b)
			room -= len(b)
			n++
		}
	}
	if r.IntN(5) == 0 {
		n += uint64(r.IntN(3)) - 1
	}
	image := p.laid(size, n, records...)
	for range r.IntN(3) {
		at := p.at + r.IntN(p.size)
		image = over(image, at, string([]byte{byte(r.Uint32() >> (8 * r.IntN(4)))}))
	}
	return image
}

// P11.5, P11.6: any logs, right and spoilt ones, on devices whose lines have one content and several.
func TestAnyLogs(t *testing.T) {
	r := rand.New(rand.NewPCG(11, 5))
	is, not := 0, 0
	for round := range 20000 {
		p := place{64 + 64*r.IntN(3), 128 + 64*r.IntN(5)}
		d := from(t, p.anyLog(r, p.at+p.size+64*(1+r.IntN(4))))
		for range r.IntN(6) {
			at := 8 * r.IntN(d.Size()/8)
			if at < p.at || at >= p.at+p.size {
				well(t, d.Store8(at, r.Uint64()))
			}
			if r.IntN(2) == 0 {
				well(t, d.Flush(at))
			}
		}
		if p.checkHeld(t, fmt.Sprintf("round %d, %v", round, p), d) {
			is++
		} else {
			not++
		}
	}
	if is < 5000 || not < 5000 {
		t.Errorf("%d logs are right, %d not", is, not)
	}
}

// P11.6: records that overlap, of unlike bytes: the first one is brought back last.
func TestTheFirstRecordIsBroughtBackLast(t *testing.T) {
	p := place{128, 256}
	d := from(t, p.laid(640, 4, record(64, "AAAAAAAAAA"), record(60+8, "BBBBBBBBBB"), record(68, "CC"), record(400, "DDD")))
	if n, e := p.open(t, d).Rollback(); n != 4 || e != api.OK {
		t.Fatalf("Rollback = %d, %d", n, e)
	}
	if b := string(d.Image()); b[64:80] != "AAAAAAAAAABBBB"+rising(640)[78:80] || b[400:404] != "DDD"+rising(640)[403:404] {
		t.Errorf("brought back %q, %q", b[64:80], b[400:404])
	}
}

// P11.5, P11.6: the log of a store, and the longest one, full of records.
func TestLongLogs(t *testing.T) {
	for _, x := range []struct {
		place
		bytes int
	}{{place{api.LogAt, api.LogSize}, api.MinSize}, {place{128, 1 << 21}, api.MaxSize}} {
		d := from(t, x.empty(x.bytes))
		image := string(d.Image())
		end := x.at + x.size
		whole := api.Extent{At: end, Len: min(x.size-64-24, x.bytes-end)}
		got := x.goesWell(t, "all at once", d, x.write(image, whole))
		x.tells(t, "all at once", got, of(image, []api.Extent{whole}), api.OK)
		well(t, got.Store(end, make([]byte, whole.Len)))
		x.goesWell(t, "all at once", got, x.rollback(of(image, []api.Extent{whole})))
		var many []api.Extent
		for i := range min(3000, (x.size-64)/32) {
			many = append(many, api.Extent{At: end + i*5%(x.bytes-end-8), Len: 1 + i%8})
		}
		got = x.goesWell(t, "many", d, x.write(image, many...))
		x.tells(t, "many", got, of(image, many), api.OK)
		x.goesWell(t, "many", got, x.rollback(of(image, many)))
	}
}
