package pmem_test

import (
	"bytes"
	"math"
	"slices"
	"strings"
	"testing"

	"vellum/api"
	"vellum/pmem"
)

// P8.1: the rows of the examples, the least and the greatest size, what lies just beyond, sizes between lines.
func TestSizes(t *testing.T) {
	for _, n := range []int{0, 100, 4194368, -64, -1, 1, 8, 63, 65, 72, 96, 127, 129, -128, 1<<22 - 8, 1<<22 - 1, 1<<22 + 1, 1 << 23, 1 << 32, math.MaxInt, math.MaxInt - 63, math.MinInt, math.MinInt + 64} {
		if d, e := pmem.New(n); d != nil || e != api.ErrSize {
			t.Errorf("New(%d) = %v, %d", n, d, e)
		}
	}
	for _, n := range []int{0, 1, 63, 65, 72, 100, 1<<22 - 8, 1<<22 - 1, 1<<22 + 1, 4194368} {
		if d, e := pmem.From(make([]byte, n)); d != nil || e != api.ErrSize {
			t.Errorf("From %d bytes = %v, %d", n, d, e)
		}
	}
	if d, e := pmem.From(nil); d != nil || e != api.ErrSize {
		t.Errorf("From(nil) = %v, %d", d, e)
	}
	for _, n := range []int{64, 128, 192, 36992, 1<<22 - 64, 1 << 22} {
		d := made(t, n)
		if d.Size() != n || d.Ops() != 0 || d.Off() || !bytes.Equal(d.Image(), make([]byte, n)) {
			t.Errorf("New(%d): %d bytes, %d operations, off %v, or other bytes than 0", n, d.Size(), d.Ops(), d.Off())
		}
		image := rising(n)
		d = from(t, image)
		if d.Size() != n || d.Ops() != 0 || d.Off() || string(d.Image()) != image {
			t.Errorf("From %d bytes: %d, %d operations, off %v, or other bytes", n, d.Size(), d.Ops(), d.Off())
		}
		for _, line := range []int{0, n/64 - 1} {
			if got := d.Contents(line); len(got) != 1 || string(got[0]) != image[line*64:line*64+64] {
				t.Errorf("From %d bytes: Contents(%d) = % x", n, line, got)
			}
		}
	}
}

// P8.1: no arm waits on a new device, and none of its lines is flushed.
func TestNewHasNothing(t *testing.T) {
	for _, d := range []*pmem.Device{made(t, 64), from(t, rising(64))} {
		all(t, d, arm(make64(api.Arm{After: math.MaxInt})...))
		all(t, d, store8(0, ones), fence())
		if n := len(d.Contents(0)); n != 2 {
			t.Errorf("%d contents behind a Fence without a Flush", n)
		}
	}
}

// make64 is as many arms as may wait.
func make64(a api.Arm) []api.Arm { return slices.Repeat([]api.Arm{a}, 64) }

// P8.2: the rows of the examples, all ranges of a small device, places and lengths that are none.
func TestLoad(t *testing.T) {
	image := rising(192)
	d := from(t, image)
	for at := range 193 {
		for n := range 193 - at {
			if b, e := d.Load(at, n); string(b) != image[at:at+n] || e != api.OK {
				t.Fatalf("Load(%d, %d) = % x, %d", at, n, b, e)
			}
		}
		if b, e := d.Load(at, 193-at); b != nil || e != api.ErrRange {
			t.Errorf("Load(%d, %d) = % x, %d", at, 193-at, b, e)
		}
	}
	for _, x := range [][2]int{{-1, 0}, {-1, 1}, {-1, 2}, {0, -1}, {5, -1}, {192, -1}, {193, -1}, {193, 0}, {0, 193}, {192, 1}, {191, 2}, {-64, 64}, {math.MaxInt, 0}, {math.MaxInt, 1}, {math.MaxInt, math.MaxInt}, {0, math.MaxInt}, {1, math.MaxInt}, {64, math.MaxInt - 63}, {math.MaxInt - 63, 64}, {math.MinInt, 0}, {math.MinInt, math.MinInt}, {math.MinInt, math.MaxInt}, {0, math.MinInt}, {-1, math.MinInt}, {192, math.MinInt}} {
		if b, e := d.Load(x[0], x[1]); b != nil || e != api.ErrRange {
			t.Errorf("Load(%d, %d) = % x, %d", x[0], x[1], b, e)
		}
	}
	if d.Ops() != 0 {
		t.Errorf("%d operations of loads", d.Ops())
	}
}

// P8.3: the rows of the examples: what is stored is seen at once, word by word.
func TestStoreExample(t *testing.T) {
	d := made(t, 128)
	all(t, d, store8(0, ones), store(6, "\x02\x02\x02\x02"))
	if d.Ops() != 3 || len(d.Contents(0)) != 4 || len(d.Contents(1)) != 1 {
		t.Errorf("%d operations, %d and %d contents", d.Ops(), len(d.Contents(0)), len(d.Contents(1)))
	}
	if b, e := d.Load(0, 12); string(b) != "\x01\x01\x01\x01\x01\x01\x02\x02\x02\x02\x00\x00" || e != api.OK {
		t.Errorf("Load(0, 12) = % x, %d", b, e)
	}
	all(t, d, crash(1))
	if b, e := d.Load(0, 8); b != nil || e != api.ErrOff {
		t.Errorf("Load of one that is off = % x, %d", b, e)
	}
	all(t, d, wake())
	if b, e := d.Load(0, 12); string(b) != "\x01\x01\x01\x01\x01\x01\x01\x01\x00\x00\x00\x00" || e != api.OK {
		t.Errorf("Load(0, 12) = % x, %d", b, e)
	}
}

// P8.3: each word of a device, its lowest byte first; the same once more is an operation, and a content, too.
func TestStore8(t *testing.T) {
	d := made(t, 128)
	want := make([]byte, 128)
	for at := 0; at < 128; at += 8 {
		v := 0x0807060504030201 + uint64(at)
		copy(want[at:], []byte{byte(1 + at), 2, 3, 4, 5, 6, 7, 8})
		all(t, d, store8(at, v), store8(at, v))
		if string(d.Image()) != string(want) {
			t.Fatalf("Store8(%d, %x): % x", at, v, d.Image())
		}
	}
	if d.Ops() != 32 || len(d.Contents(0)) != 17 || len(d.Contents(1)) != 17 {
		t.Errorf("%d operations, %d and %d contents", d.Ops(), len(d.Contents(0)), len(d.Contents(1)))
	}
	all(t, d, store8(120, math.MaxUint64), store8(0, 1<<63))
	if b := d.Image(); string(b[120:]) != "\xFF\xFF\xFF\xFF\xFF\xFF\xFF\xFF" || string(b[:8]) != "\x00\x00\x00\x00\x00\x00\x00\x80" {
		t.Errorf("the greatest words: % x", b)
	}
	before := d.Copy()
	for _, at := range []int{4, 128, -8, -1, 1, 7, 9, 119, 121, 124, 127, 136, 1 << 32, math.MaxInt, math.MaxInt - 7, math.MinInt, math.MinInt + 8} {
		if e := d.Store8(at, ones); e != api.ErrRange {
			t.Errorf("Store8(%d) = %d", at, e)
		}
	}
	untouched(t, d, before)
}

// untouched holds what a device tells against what it told.
func untouched(t *testing.T, d, before *pmem.Device) {
	t.Helper()
	if d.Ops() != before.Ops() || d.Off() != before.Off() || !bytes.Equal(d.Image(), before.Image()) {
		t.Fatalf("refused calls have changed something: %d operations, off %v", d.Ops(), d.Off())
	}
	for line := range d.Size() / 64 {
		if !slices.EqualFunc(d.Contents(line), before.Contents(line), slices.Equal) {
			t.Fatalf("refused calls have changed the contents of line %d", line)
		}
	}
}

// P8.3: all ranges of a small device: one operation, and one content, for each word that has some of the bytes.
func TestStore(t *testing.T) {
	image := rising(192)
	put := strings.Map(func(r rune) rune { return r ^ 0x55 }, strings.Repeat("ABCDEFGHIJKLMNOPQRSTUVWXYZ", 8))
	for at := range 193 {
		for n := range 193 - at {
			d := from(t, image)
			all(t, d, store(at, put[:n]))
			if got, want := string(d.Image()), image[:at]+put[:n]+image[at+n:]; got != want {
				t.Fatalf("Store(%d, %d bytes): % x", at, n, got)
			}
			words := [24]int{}
			for a := at; a < at+n; a++ {
				words[a/8] = 1
			}
			ops := 0
			for line := range 3 {
				more := 0
				for _, is := range words[line*8 : line*8+8] {
					more += is
				}
				ops += more
				if got := len(d.Contents(line)); got != 1+more {
					t.Fatalf("Store(%d, %d bytes): line %d has %d contents", at, n, line, got)
				}
			}
			if d.Ops() != ops {
				t.Fatalf("Store(%d, %d bytes): %d operations", at, n, d.Ops())
			}
		}
	}
}

// P8.3: places that are none; a store of no bytes is no operation, at the end, too.
func TestStoreBeyond(t *testing.T) {
	d := from(t, rising(128))
	all(t, d, store8(0, ones))
	before := d.Copy()
	for _, x := range []struct{ at, n int }{{127, 2}, {-1, 0}, {-1, 1}, {-1, 2}, {129, 0}, {128, 1}, {0, 129}, {1, 128}, {64, 65}, {-64, 128}, {math.MaxInt, 0}, {math.MaxInt, 1}, {math.MaxInt, 8}, {math.MaxInt - 7, 8}, {math.MinInt, 0}, {math.MinInt, 8}, {0, 1 << 23}} {
		if e := d.Store(x.at, make([]byte, x.n)); e != api.ErrRange {
			t.Errorf("Store(%d, %d bytes) = %d", x.at, x.n, e)
		}
	}
	for _, at := range []int{0, 5, 64, 127, 128} {
		if a, b := d.Store(at, nil), d.Store(at, []byte{}); a != api.OK || b != api.OK {
			t.Errorf("Store(%d, no bytes) = %d, %d", at, a, b)
		}
	}
	untouched(t, d, before)
}

// P8.3, P8.8: the contents between are as each operation left the line, rising.
func TestStoreRises(t *testing.T) {
	d := made(t, 128)
	all(t, d, store(60, rising(20)))
	line := make([]byte, 64)
	copy(line[60:], rising(20)[:4])
	if got := d.Contents(0); len(got) != 2 || !bytes.Equal(got[0], make([]byte, 64)) || !bytes.Equal(got[1], line) {
		t.Errorf("line 0: % x", got)
	}
	got := d.Contents(1)
	line = make([]byte, 64)
	for i, n := range []int{0, 8, 16} {
		copy(line, rising(20)[4:4+n])
		if len(got) != 3 || !bytes.Equal(got[i], line) {
			t.Fatalf("line 1, content %d: % x", i, got)
		}
	}
}

// P8.4: the rows of the examples.
func TestFenceExample(t *testing.T) {
	for _, x := range []struct {
		keep []int
		next byte
	}{{nil, 0}, {[]int{0}, 0}, {[]int{1}, 2}, {[]int{2}, 0}, {[]int{3}, 2}} {
		d := made(t, 128)
		all(t, d, store8(0, ones), flush(5), store8(8, twos), fence())
		if n := len(d.Contents(0)); n != 2 || d.Ops() != 4 {
			t.Errorf("%d contents, %d operations", n, d.Ops())
		}
		if e := d.Crash(-1); e != api.ErrArg || d.Off() {
			t.Errorf("Crash(-1) = %d, off %v", e, d.Off())
		}
		all(t, d, crash(x.keep...))
		want := bytes.Repeat([]byte{1}, 8)
		want = append(want, bytes.Repeat([]byte{x.next}, 8)...)
		want = append(want, make([]byte, 112)...)
		if got := d.Image(); !bytes.Equal(got, want) {
			t.Errorf("kept %v: % x", x.keep, got)
		}
	}
}

// P8.4: which line a byte has; places that are none.
func TestFlush(t *testing.T) {
	for at := range 192 {
		d := made(t, 192)
		all(t, d, store8(0, ones), store8(64, ones), store8(128, ones), flush(at), fence())
		for line := range 3 {
			want := 2
			if line == at/64 {
				want = 1
			}
			if n := len(d.Contents(line)); n != want {
				t.Errorf("Flush(%d): line %d has %d contents", at, line, n)
			}
		}
		if d.Ops() != 5 {
			t.Errorf("Flush(%d): %d operations", at, d.Ops())
		}
	}
	d := made(t, 192)
	all(t, d, store8(0, ones))
	before := d.Copy()
	for _, at := range []int{192, -1, 193, -64, 256, 1 << 32, math.MaxInt, math.MaxInt - 63, math.MinInt} {
		if e := d.Flush(at); e != api.ErrRange {
			t.Errorf("Flush(%d) = %d", at, e)
		}
	}
	untouched(t, d, before)
}

// P8.4: what lasts is the line as it was seen at the last Flush; a Fence ends that; lines that were not flushed keep all contents.
func TestFence(t *testing.T) {
	for _, x := range []struct {
		calls []call
		want  []uint64 // the first word of each content of line 0
	}{
		{[]call{}, []uint64{0}},
		{[]call{fence()}, []uint64{0}},
		{[]call{flush(0), fence()}, []uint64{0}},
		{[]call{store8(0, 1), fence()}, []uint64{0, 1}},
		{[]call{store8(0, 1), flush(64), fence()}, []uint64{0, 1}},
		{[]call{store8(0, 1), flush(0)}, []uint64{0, 1}},
		{[]call{store8(0, 1), flush(0), fence()}, []uint64{1}},
		{[]call{store8(0, 1), flush(0), fence(), fence()}, []uint64{1}},
		{[]call{flush(0), store8(0, 1), fence()}, []uint64{0, 1}},
		{[]call{flush(0), store8(0, 1), flush(0), fence()}, []uint64{1}},
		{[]call{store8(0, 1), flush(0), store8(0, 2), store8(0, 3), fence()}, []uint64{1, 2, 3}},
		{[]call{store8(0, 1), flush(0), store8(0, 2), flush(7), store8(0, 3), fence()}, []uint64{2, 3}},
		{[]call{store8(0, 1), flush(0), store8(0, 2), flush(63), fence()}, []uint64{2}},
		{[]call{store8(0, 1), flush(0), fence(), store8(0, 2), fence()}, []uint64{1, 2}},
		{[]call{store8(0, 1), flush(0), store8(0, 2), fence(), fence()}, []uint64{1, 2}},
		{[]call{store8(0, 1), flush(0), store8(0, 2), fence(), flush(0), fence()}, []uint64{2}},
		{[]call{store8(0, 1), flush(0), store8(0, 2), fence(), store8(0, 3), flush(0), store8(0, 4), fence()}, []uint64{3, 4}},
		{[]call{store8(0, 0), store8(0, 0), flush(0), store8(0, 0), fence()}, []uint64{0, 0}},
		{[]call{store8(0, 1), store8(0, 1), store8(0, 1), flush(0), store8(0, 1), store8(0, 1), store8(0, 2), fence()}, []uint64{1, 1, 1, 2}},
		{[]call{store8(0, 1), store8(0, 1), flush(0), store8(0, 1), fence(), flush(0), store8(0, 2), fence()}, []uint64{1, 2}},
		{[]call{store8(0, 1), flush(0), crash(1), wake(), store8(0, 2), fence()}, []uint64{1, 2}},
		{[]call{store8(0, 1), flush(0), crash(0), wake(), fence()}, []uint64{0}},
	} {
		d := made(t, 128)
		all(t, d, x.calls...)
		var got []uint64
		for _, c := range d.Contents(0) {
			got = append(got, uint64(c[0]))
		}
		if !slices.Equal(got, x.want) || len(d.Contents(1)) != 1 {
			t.Errorf("%s: %v", names(x.calls), got)
		}
	}
}

// P8.4: a Fence takes all flushed lines, and no other one.
func TestFenceOfManyLines(t *testing.T) {
	const lines = 100
	d := made(t, lines*64)
	for line := range lines {
		all(t, d, store8(line*64, ones), store8(line*64+56, twos))
		if line%3 == 0 {
			all(t, d, flush(line*64+line%64))
		}
	}
	all(t, d, fence())
	for line := range lines {
		want := 3
		if line%3 == 0 {
			want = 1
		}
		if n := len(d.Contents(line)); n != want {
			t.Errorf("line %d has %d contents", line, n)
		}
	}
}

// P8.8: lines that are none; each content 64 bytes.
func TestContents(t *testing.T) {
	image := rising(128)
	d := from(t, image)
	for _, line := range []int{-1, 2, 3, 64, 128, 1 << 32, math.MaxInt, math.MinInt} {
		if got := d.Contents(line); len(got) != 0 {
			t.Errorf("Contents(%d) = % x", line, got)
		}
	}
	for line := range 2 {
		if got := d.Contents(line); len(got) != 1 || string(got[0]) != image[line*64:line*64+64] {
			t.Errorf("Contents(%d) = % x", line, got)
		}
	}
}

// P8.8: what is done to a copy does nothing to the other one; contents, flushes, arms, what was counted, and off are copied.
func TestCopy(t *testing.T) {
	first := []call{store(60, rising(20)), flush(0), store8(0, ones), arm(api.Arm{After: 3, Keep: []int{1, 1}}, api.Arm{After: 1}), store8(8, twos)}
	more := []call{store8(16, threes), fence(), wake(), flush(64), wake(), fence()}
	want := made(t, 128)
	all(t, want, first...)
	d := want.Copy()
	before := want.Copy()
	untouched(t, d, want)
	answers := func(d *pmem.Device) []api.Errno {
		var l []api.Errno
		for _, c := range more {
			l = append(l, c.do(d))
		}
		return l
	}
	got := answers(d)
	untouched(t, want, before)
	if l := answers(want); !slices.Equal(got, l) || !slices.Equal(got, []api.Errno{api.OK, api.ErrOff, api.OK, api.ErrOff, api.OK, api.OK}) {
		t.Errorf("the copy answers %v, the other one %v", got, l)
	}
	untouched(t, d, want)
	all(t, d, crash())
	if off := d.Copy(); !off.Off() || off.Wake() != api.OK || !d.Off() || want.Off() {
		t.Errorf("a copy of one that is off is on, or wakes the other one")
	}
	image := string(want.Image())
	all(t, want.Copy(), store(0, rising(128)), flush(0), flush(64), fence())
	if string(want.Image()) != image {
		t.Errorf("a store to a copy is seen")
	}
}

// P8.8: arms that are put to a copy wait there alone.
func TestCopyArms(t *testing.T) {
	d := made(t, 64)
	all(t, d, arm(api.Arm{After: 2}, api.Arm{After: 2}, api.Arm{After: 2}))
	other := d.Copy()
	all(t, other, store8(0, ones), arm(make64(api.Arm{After: 1})[:61]...))
	all(t, d, arm(make64(api.Arm{After: 5})[:61]...))
	if a, b := other.Store8(0, ones), d.Store8(0, ones); a != api.ErrOff || b != api.OK {
		t.Errorf("the copy answers %d, the other one %d", a, b)
	}
	for n := range 2 {
		all(t, other, wake(), store8(0, ones))
		if e := other.Fence(); e != api.ErrOff {
			t.Errorf("arm %d of the copy: %d", n, e)
		}
	}
	all(t, other, wake())
	if e := other.Fence(); e != api.ErrOff {
		t.Errorf("the copy's own arm: %d", e)
	}
}

// P8.8: these tell the same while the device is off; Contents the one that is kept.
func TestWhileOff(t *testing.T) {
	d := made(t, 128)
	all(t, d, store8(0, ones), store8(64, twos), store8(64, threes), crash(1, 1))
	if !d.Off() || d.Size() != 128 || d.Ops() != 3 || len(d.Image()) != 128 || d.Image()[0] != 1 || d.Image()[64] != 2 {
		t.Errorf("off %v, %d bytes, %d operations, % x", d.Off(), d.Size(), d.Ops(), d.Image())
	}
	for line, want := range []byte{1, 2} {
		if got := d.Contents(line); len(got) != 1 || got[0][0] != want {
			t.Errorf("Contents(%d) = % x", line, got)
		}
	}
	if got := d.Contents(2); len(got) != 0 {
		t.Errorf("Contents(2) = % x", got)
	}
	other := d.Copy()
	untouched(t, other, d)
}

// R3: a device that is nil, or that no call has made, but for Copy.
func TestNil(t *testing.T) {
	byHand := *made(t, 64)
	for _, d := range []*pmem.Device{nil, {}, new(pmem.Device), &byHand} {
		if b, e := d.Load(0, 0); b != nil || e != api.ErrNil {
			t.Errorf("Load = % x, %d", b, e)
		}
		if b, e := d.Load(-1, math.MaxInt); b != nil || e != api.ErrNil {
			t.Errorf("Load = % x, %d", b, e)
		}
		for _, c := range []call{store8(0, 0), store8(-1, 1), store(0, ""), store(-1, "a"), store(0, "a"), flush(0), flush(-1), fence(), arm(), arm(api.Arm{}), arm(api.Arm{After: 1}), arm(make64(api.Arm{After: 1})...), crash(), crash(-1), crash(1), wake()} {
			if e := c.do(d); e != api.ErrNil {
				t.Errorf("%s = %d", c.name, e)
			}
		}
		if d.Size() != 0 || d.Ops() != 0 || d.Off() || len(d.Contents(0)) != 0 || len(d.Contents(-1)) != 0 || len(d.Image()) != 0 || d.Copy() != nil {
			t.Errorf("a device that is none tells something")
		}
	}
}

// R5: what is handed in is not kept, and what is told is new memory.
func TestOwnMemory(t *testing.T) {
	image := []byte(rising(128))
	d, _ := pmem.From(image[:64:128])
	clear(image[:64])
	if string(d.Image()) != rising(128)[:64] {
		t.Errorf("the image is kept")
	}
	room := []byte(rising(32))
	all(t, d, call{"Store", func(d device) api.Errno { return d.Store(5, room[3:9]) }})
	if string(room) != rising(32) {
		t.Errorf("what is stored is changed")
	}
	clear(room)
	want := rising(64)[:5] + rising(32)[3:9] + rising(64)[11:]
	if string(d.Image()) != want {
		t.Errorf("what is stored is kept")
	}
	told, _ := d.Load(0, 64)
	clear(told)
	clear(d.Image())
	for _, c := range d.Contents(0) {
		clear(c[:cap(c)])
	}
	if l := d.Contents(0); string(d.Image()) != want || len(l) != 3 || string(l[0]) != rising(64) || string(l[2]) != want {
		t.Errorf("what is told is the device's own memory")
	}
	l := d.Contents(0)
	clear(l[1][:cap(l[1])])
	if string(l[0]) != rising(64) || string(l[2]) != want {
		t.Errorf("two contents share memory")
	}
	_ = append(l[0], 1, 2, 3)
	if string(l[2]) != want {
		t.Errorf("what is put behind a content is seen in another one")
	}
}
