package persist_test

import (
	"bytes"
	"math"
	"slices"
	"strings"
	"testing"

	"vellum/api"
	"vellum/persist"
	"vellum/pmem"
)

// P9.1 to P9.5: the rows of the examples.
func TestExamples(t *testing.T) {
	d := made(t, 128)
	ops := 0
	did := func(name string, e, want api.Errno, n int) {
		t.Helper()
		if e != want || d.Ops()-ops != n {
			t.Errorf("%s = %d, %d operations; not %d, %d", name, e, d.Ops()-ops, want, n)
		}
		ops = d.Ops()
	}
	did("Bytes(60, 8 bytes)", persist.Bytes(d, 60, bytes.Repeat([]byte{1}, 8)), api.OK, 5)
	did("Range(63, 1)", persist.Range(d, 63, 1), api.OK, 2)
	did("Range(0, 128)", persist.Range(d, 0, 128), api.OK, 3)
	did("Range(-5, 0)", persist.Range(d, -5, 0), api.OK, 0)
	did("Range(128, 1)", persist.Range(d, 128, 1), api.ErrRange, 0)
	did("Range(-1, 2)", persist.Range(d, -1, 2), api.ErrRange, 0)
	did("Publish(8, 258)", persist.Publish(d, 8, 258), api.OK, 3)
	checkWord(t, d, 8, 258, api.OK)
	did("Publish(4, 1)", persist.Publish(d, 4, 1), api.ErrRange, 0)
	checkWord(t, d, 124, 0, api.ErrRange)
	checkLoad(t, d, 9, uint16(1), api.OK)
	checkLoad(t, d, 126, uint32(0), api.ErrRange)
	did("Field[uint8]{127}.Store(255)", persist.Field[uint8]{At: 127}.Store(d, 255), api.OK, 3)
	for keep, want := range []uint64{0, 7} {
		d := made(t, 128)
		well(t, d.Arm(api.Arm{After: 2, Keep: []int{keep}}))
		if e := persist.Publish(d, 0, 7); e != api.ErrOff {
			t.Errorf("Publish with an arm = %d", e)
		}
		well(t, d.Wake())
		checkWord(t, d, 0, want, api.OK)
	}
}

func checkWord(t *testing.T, d *pmem.Device, at int, want uint64, code api.Errno) {
	t.Helper()
	if v, e := persist.Word(d, at); v != want || e != code {
		t.Errorf("Word(%d) = %x, %d; not %x, %d", at, v, e, want, code)
	}
}

func checkLoad[T api.Whole](t *testing.T, d *pmem.Device, at int, want T, code api.Errno) {
	t.Helper()
	if v, e := (persist.Field[T]{At: at}).Load(d); v != want || e != code {
		t.Errorf("Field[%T]{%d}.Load = %x, %d; not %x, %d", want, at, v, e, want, code)
	}
}

// busy is a device of three lines, each of which has several contents and is flushed, the second one once more stored to.
func busy(t *testing.T) *pmem.Device {
	t.Helper()
	d := from(t, rising(192))
	for at := 8; at < 192; at += 32 {
		well(t, d.Store8(at, uint64(at)*0x0101010101010101))
	}
	well(t, d.Flush(0), d.Flush(64), d.Flush(128), d.Store8(72, 5))
	return d
}

// goesWell makes a call on a copy, and holds what it did against its operations on another one.
func goesWell(t *testing.T, d *pmem.Device, c call) {
	t.Helper()
	got, want := d.Copy(), d.Copy()
	if e := c.do(got); e != api.OK {
		t.Fatalf("%s = %d", c.name, e)
	}
	for _, o := range c.ops {
		well(t, o(want))
	}
	same(t, c.name, got, want)
}

// P9.1, P9.2: all ranges of a device of three lines.
func TestAllRanges(t *testing.T) {
	d := busy(t)
	put := other(192)
	for at := range 192 {
		for n := 1; n <= 192-at; n++ {
			goesWell(t, d, rangeCall(at, n))
			goesWell(t, d, bytesCall(at, put[:n]))
		}
	}
}

// P9.1, P9.2, P9.5: what a call comes to on a clean device, on one with stores that are not flushed, with lines that are flushed.
func TestCallsOnAllBeginnings(t *testing.T) {
	for name, d := range beginnings(t) {
		for _, c := range calls() {
			c.name = name + ": " + c.name
			goesWell(t, d, c)
		}
	}
}

// P9.1, P9.2: of no bytes nothing is done, whatever the place is: what was flushed is not fenced either.
func TestNothingAtAll(t *testing.T) {
	d := busy(t)
	for _, at := range places(192) {
		got := d.Copy()
		for _, n := range []int{0, -1, -64, -192, math.MinInt, math.MinInt + 1, math.MinInt + 191} {
			if e := persist.Range(got, at, n); e != api.OK {
				t.Errorf("Range(%d, %d) = %d", at, n, e)
			}
		}
		for _, b := range [][]byte{nil, {}, []byte("abc")[:0]} {
			if e := persist.Bytes(got, at, b); e != api.OK {
				t.Errorf("Bytes(%d, none) = %d", at, e)
			}
		}
		same(t, "calls of no bytes", got, d)
	}
}

// places is all places on a device of so many bytes, those around it, and those at the ends of ints.
func places(size int) []int {
	var l []int
	for at := -130; at <= size+130; at++ {
		l = append(l, at)
	}
	for i := range 130 {
		l = append(l, math.MinInt+i, math.MaxInt-i, size+math.MinInt+i)
	}
	return append(l, 1<<31, 1<<32, 1<<32+8, -1<<31, -1<<32, 1<<62, -1<<62)
}

// P9.1: places that are none, lengths that lead beyond the end, also beyond the greatest int.
func TestRangesThatAreNone(t *testing.T) {
	d := busy(t)
	got := d.Copy()
	lengths := []int{1, 2, 7, 8, 63, 64, 65, 128, 191, 192, 193, 256, 1 << 22, 1<<22 + 1, 1 << 31, 1 << 32, 1<<32 + 1, math.MaxInt - 192, math.MaxInt - 191, math.MaxInt - 1, math.MaxInt}
	for _, at := range places(192) {
		for _, n := range lengths {
			if at >= 0 && at < 192 && n <= 192 && at+n <= 192 {
				continue
			}
			if e := persist.Range(got, at, n); e != api.ErrRange {
				t.Errorf("Range(%d, %d) = %d", at, n, e)
			}
		}
	}
	same(t, "Range of none", got, d)
}

// P9.2, P9.5: bytes that do not all lie on the device: none of them is written.
func TestBytesThatLieBeyond(t *testing.T) {
	d := busy(t)
	got := d.Copy()
	for _, at := range places(192) {
		for _, n := range []int{1, 2, 4, 8, 64, 100, 192, 193, 500} {
			if at >= 0 && at <= 192-n {
				continue
			}
			if e := persist.Bytes(got, at, []byte(other(n))); e != api.ErrRange {
				t.Errorf("Bytes(%d, %d bytes) = %d", at, n, e)
			}
		}
		if at < 0 || at > 192-1 {
			refuses(t, got, at, uint8(1))
		}
		if at < 0 || at > 192-2 {
			refuses(t, got, at, uint16(1))
		}
		if at < 0 || at > 192-4 {
			refuses(t, got, at, uint32(1))
		}
		if at < 0 || at > 192-8 {
			refuses(t, got, at, uint64(1))
		}
	}
	same(t, "Bytes beyond", got, d)
}

// refuses asks for a number that does not lie on the device.
func refuses[T api.Whole](t *testing.T, d *pmem.Device, at int, v T) {
	t.Helper()
	checkLoad(t, d, at, T(0), api.ErrRange)
	if e := (persist.Field[T]{At: at}).Store(d, v); e != api.ErrRange {
		t.Errorf("Field[%T]{%d}.Store = %d", v, at, e)
	}
}

// P9.2, R5: neither the bytes that are handed in nor the room behind them are changed, and the device does not see what becomes of them.
func TestBytesAreNotKept(t *testing.T) {
	d := from(t, rising(128))
	room := []byte(strings.Repeat("x", 80))
	copy(room[20:], other(40))
	was := slices.Clone(room)
	well(t, persist.Bytes(d, 30, room[20:60]))
	if !bytes.Equal(room, was) {
		t.Errorf("Bytes changed what it was handed: % x", room)
	}
	clear(room)
	if b, e := d.Load(29, 42); string(b) != rising(128)[29:30]+other(40)+rising(128)[70:71] || e != api.OK {
		t.Errorf("behind Bytes: % x, %d", b, e)
	}
}

// P9.3, P9.4: each place, on the device and around it: which ones are places of words, what becomes of them, what is seen there.
func TestAllPlacesOfWords(t *testing.T) {
	d := busy(t)
	image := d.Image()
	for _, at := range places(192) {
		got := d.Copy()
		if at < 0 || at > 184 || at%8 != 0 {
			checkWord(t, got, at, 0, api.ErrRange)
			if e := persist.Publish(got, at, 5); e != api.ErrRange {
				t.Errorf("Publish(%d) = %d", at, e)
			}
			same(t, "Publish at none", got, d)
			continue
		}
		var seen uint64
		for i := 7; i >= 0; i-- {
			seen = seen<<8 | uint64(image[at+i])
		}
		checkWord(t, got, at, seen, api.OK)
		same(t, "Word", got, d)
		for _, v := range []uint64{0, 1, 258, seen, ^seen, 0xf1e2d3c4b5a69788, 1 << 63, math.MaxUint64} {
			goesWell(t, d, publishCall(at, v))
			got := d.Copy()
			well(t, persist.Publish(got, at, v))
			checkWord(t, got, at, v, api.OK)
		}
	}
}

// P9.4, P9.5: what is told is what is seen, not what is durable.
func TestSeenIsTold(t *testing.T) {
	d := made(t, 64)
	well(t, d.Store8(8, 0x1112131415161718))
	checkWord(t, d, 8, 0x1112131415161718, api.OK)
	checkLoad(t, d, 8, uint64(0x1112131415161718), api.OK)
	checkLoad(t, d, 9, uint8(0x17), api.OK)
	well(t, d.Crash(), d.Wake())
	checkWord(t, d, 8, 0, api.OK)
	checkLoad(t, d, 9, uint8(0), api.OK)
}

type byteKind uint8
type shortKind uint16
type midKind uint32
type longKind uint64

// P9.5: numbers of each width, and of types made of these, at all places.
func TestFields(t *testing.T) {
	checkField(t, 1, uint8(0), 1, 0x7f, 0x80, 0xff)
	checkField(t, 1, byteKind(0xab))
	checkField(t, 2, uint16(0), 1, 0x102, 0x8001, 0xffff)
	checkField(t, 2, shortKind(0xabcd))
	checkField(t, 4, uint32(0), 1, 0x1020304, 0x80000001, 0xffffffff)
	checkField(t, 4, midKind(0xabcdef01))
	checkField(t, 8, uint64(0), 1, 0x102030405060708, 1<<63+1, math.MaxUint64)
	checkField(t, 8, longKind(0xf0e0d0c0b0a09080))
}

func checkField[T api.Whole](t *testing.T, width int, numbers ...T) {
	t.Helper()
	d := busy(t)
	image := string(d.Image())
	for at := range 192 - width + 1 {
		for _, v := range numbers {
			goesWell(t, d, fieldCall(at, v, width))
			laid := from(t, image[:at]+lowest(uint64(v), width)+image[at+width:])
			checkLoad(t, laid, at, v, api.OK)
			if laid.Ops() != 0 {
				t.Errorf("Field[%T]{%d}.Load made %d operations", v, at, laid.Ops())
			}
			got := d.Copy()
			load := persist.Field[T]{At: at}.Load
			well(t, persist.Field[T]{At: at}.Store(got, v))
			if w, e := load(got); w != v || e != api.OK {
				t.Errorf("Field[%T]{%d}: %x, %d behind Store of %x", v, at, w, e, v)
			}
		}
	}
}

// P9.5: a field is a value: two of one type and one place are the same one.
func TestFieldsAreValues(t *testing.T) {
	f := persist.Field[uint32]{At: 8}
	g := f
	g.At = 12
	d := made(t, 64)
	well(t, f.Store(d, 1), g.Store(d, 2))
	checkLoad(t, d, 8, uint32(1), api.OK)
	checkWord(t, d, 8, 2<<32+1, api.OK)
	if g.At = 8; f != g {
		t.Error("two fields of one place are unlike")
	}
}

// P9.1 to P9.5: a device that is none goes ahead of one that is off, and that ahead of wrong places; of no bytes, too.
func TestDevicesThatAreNoneOrOff(t *testing.T) {
	off := busy(t)
	well(t, off.Crash(1, 1, 1))
	was := off.Copy()
	whole := made(t, 192)
	byHand := *whole
	byHandOff := *off
	for _, x := range []struct {
		name string
		d    *pmem.Device
		want api.Errno
	}{
		{"nil", nil, api.ErrNil},
		{"one that no call made", &pmem.Device{}, api.ErrNil},
		{"one that was copied by hand", &byHand, api.ErrNil},
		{"one that was copied by hand while it was off", &byHandOff, api.ErrNil},
		{"one that is off", off, api.ErrOff},
	} {
		for _, at := range places(192) {
			answersAll(t, x.name, x.d, at, x.want)
		}
	}
	same(t, "calls of one that is off", off, was)
	well(t, off.Wake())
	well(t, persist.Publish(off, 0, 1))
	checkWord(t, off, 0, 1, api.OK)
}

// answersAll asks each call at a place: all of them must answer that error.
func answersAll(t *testing.T, name string, d *pmem.Device, at int, want api.Errno) {
	t.Helper()
	w, e1 := persist.Word(d, at)
	a, e2 := persist.Field[uint8]{At: at}.Load(d)
	b, e3 := persist.Field[uint16]{At: at}.Load(d)
	c, e4 := persist.Field[uint32]{At: at}.Load(d)
	l, e5 := persist.Field[longKind]{At: at}.Load(d)
	if w != 0 || a != 0 || b != 0 || c != 0 || l != 0 {
		t.Fatalf("%s, at %d: a number beside an error", name, at)
	}
	for i, e := range []api.Errno{
		e1, e2, e3, e4, e5,
		persist.Range(d, at, 0), persist.Range(d, at, -1), persist.Range(d, at, math.MinInt), persist.Range(d, at, 1), persist.Range(d, at, math.MaxInt),
		persist.Bytes(d, at, nil), persist.Bytes(d, at, []byte{}), persist.Bytes(d, at, []byte{1}), persist.Bytes(d, at, make([]byte, 200)),
		persist.Publish(d, at, 0), persist.Publish(d, at, math.MaxUint64),
		persist.Field[uint8]{At: at}.Store(d, 1), persist.Field[uint16]{At: at}.Store(d, 1), persist.Field[uint32]{At: at}.Store(d, 1), persist.Field[longKind]{At: at}.Store(d, 1),
	} {
		if e != want {
			t.Fatalf("%s, at %d: call %d = %d, not %d", name, at, i, e, want)
		}
	}
}

// P9.1 to P9.5: devices of the least and of the greatest size, at their ends.
func TestEndsOfDevices(t *testing.T) {
	for _, size := range []int{64, 128, api.MinSize, api.MaxSize} {
		d := made(t, size)
		for i, x := range []struct {
			do  func() api.Errno
			ops int
		}{
			{func() api.Errno { return persist.Range(d, 0, size) }, size/64 + 1},
			{func() api.Errno { return persist.Range(d, size-1, 1) }, 2},
			{func() api.Errno { return persist.Range(d, 1, size-1) }, size/64 + 1},
			{func() api.Errno { return persist.Bytes(d, size-9, []byte(other(9))) }, 4},
			{func() api.Errno { return persist.Publish(d, size-8, 9) }, 3},
			{func() api.Errno { return persist.Publish(d, 0, 9) }, 3},
			{func() api.Errno { return persist.Field[uint16]{At: size - 2}.Store(d, 10) }, 3},
		} {
			ops := d.Ops()
			if e := x.do(); e != api.OK || d.Ops()-ops != x.ops {
				t.Errorf("%d bytes: call %d = %d, %d operations, not %d", size, i, e, d.Ops()-ops, x.ops)
			}
		}
		checkWord(t, d, size-8, 10<<48+9, api.OK)
		checkWord(t, d, size, 0, api.ErrRange)
		for i, e := range []api.Errno{persist.Range(d, size, 1), persist.Range(d, 0, size+1), persist.Bytes(d, size-1, []byte{1, 2}), persist.Publish(d, size, 1)} {
			if e != api.ErrRange {
				t.Errorf("%d bytes: call %d beyond the end = %d", size, i, e)
			}
		}
	}
}

// P9.2: bytes of the whole of a great device.
func TestBytesOfAWholeDevice(t *testing.T) {
	const size = 1 << 18
	d := made(t, size)
	put := other(size)
	if e := persist.Bytes(d, 0, []byte(put)); e != api.OK || d.Ops() != size/8+size/64+1 {
		t.Errorf("Bytes of all = %d, %d operations", e, d.Ops())
	}
	well(t, d.Crash())
	if string(d.Image()) != put {
		t.Error("bytes are lost")
	}
}
