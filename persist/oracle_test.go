package persist_test

import (
	"bytes"
	"fmt"
	"testing"

	"vellum/api"
	"vellum/persist"
	"vellum/pmem"
)

// op is one operation of a device.
type op func(d *pmem.Device) api.Errno

// call is a call of persist, the operations that it comes to, as the chapter's words tell them, and the range that lasts by it.
type call struct {
	name  string
	do    func(d *pmem.Device) api.Errno
	ops   []op
	at, n int
}

func made(t *testing.T, size int) *pmem.Device {
	t.Helper()
	d, e := pmem.New(size)
	if e != api.OK {
		t.Fatalf("New(%d) = %d", size, e)
	}
	return d
}

func from(t *testing.T, image string) *pmem.Device {
	t.Helper()
	d, e := pmem.From([]byte(image))
	if e != api.OK {
		t.Fatalf("From %d bytes = %d", len(image), e)
	}
	return d
}

// rising is n bytes of which no word is like another one.
func rising(n int) string {
	b := make([]byte, n)
	for i := range b {
		b[i] = byte(i + i/256 + 1)
	}
	return string(b)
}

// other is n bytes that fall, where those of rising rise.
func other(n int) string {
	b := make([]byte, n)
	for i := range b {
		b[i] = byte(255 - i*7)
	}
	return string(b)
}

// well does calls of a device that must go well.
func well(t *testing.T, codes ...api.Errno) {
	t.Helper()
	for i, e := range codes {
		if e != api.OK {
			t.Fatalf("call %d = %d", i, e)
		}
	}
}

// storing is one operation for each word that has some of the bytes.
func storing(at int, b string) []op {
	var l []op
	for i := 0; i < len(b); {
		from, to := i, i+1
		for to < len(b) && (at+to)%8 != 0 {
			to++
		}
		l = append(l, func(d *pmem.Device) api.Errno { return d.Store(at+from, []byte(b[from:to])) })
		i = to
	}
	return l
}

// lasting is a flush of each line that has some of the bytes, and a fence.
func lasting(at, n int) []op {
	var l []op
	for a := at; a < at+n; a++ {
		if a == at || a%64 == 0 {
			l = append(l, func(d *pmem.Device) api.Errno { return d.Flush(a) })
		}
	}
	return append(l, (*pmem.Device).Fence)
}

func rangeCall(at, n int) call {
	return call{fmt.Sprintf("Range(%d, %d)", at, n), func(d *pmem.Device) api.Errno { return persist.Range(d, at, n) }, lasting(at, n), at, n}
}

func bytesCall(at int, b string) call {
	do := func(d *pmem.Device) api.Errno { return persist.Bytes(d, at, []byte(b)) }
	return call{fmt.Sprintf("Bytes(%d, % x)", at, b), do, append(storing(at, b), lasting(at, len(b))...), at, len(b)}
}

func publishCall(at int, v uint64) call {
	do := func(d *pmem.Device) api.Errno { return persist.Publish(d, at, v) }
	ops := []op{
		func(d *pmem.Device) api.Errno { return d.Store8(at, v) },
		func(d *pmem.Device) api.Errno { return d.Flush(at) },
		(*pmem.Device).Fence,
	}
	return call{fmt.Sprintf("Publish(%d, %x)", at, v), do, ops, at, 8}
}

func fieldCall[T api.Whole](at int, v T, width int) call {
	do := func(d *pmem.Device) api.Errno { return persist.Field[T]{At: at}.Store(d, v) }
	b := lowest(uint64(v), width)
	return call{fmt.Sprintf("Field[%T]{%d}.Store(%x)", v, at, v), do, append(storing(at, b), lasting(at, width)...), at, width}
}

// lowest is so many bytes of a number, the lowest first.
func lowest(v uint64, width int) string {
	b := make([]byte, width)
	for i := range b {
		b[i] = byte(v >> (8 * i))
	}
	return string(b)
}

// same holds all that two devices tell against each other: now, and, if they are on, behind a Fence, which tells what was flushed.
func same(t *testing.T, name string, d, want *pmem.Device) {
	t.Helper()
	told(t, name, d, want)
	if !want.Off() {
		a, b := d.Copy(), want.Copy()
		if e, f := a.Fence(), b.Fence(); e != f {
			t.Fatalf("%s, Fence = %d, not %d", name, e, f)
		}
		told(t, name+", Fence", a, b)
	}
}

func told(t *testing.T, name string, d, want *pmem.Device) {
	t.Helper()
	if d.Ops() != want.Ops() || d.Off() != want.Off() || d.Size() != want.Size() {
		t.Fatalf("%s: %d operations, off %v, %d bytes; not %d, %v, %d", name, d.Ops(), d.Off(), d.Size(), want.Ops(), want.Off(), want.Size())
	}
	for line := range want.Size() / 64 {
		l, m := d.Contents(line), want.Contents(line)
		if len(l) != len(m) {
			t.Fatalf("%s: line %d has %d contents, not %d", name, line, len(l), len(m))
		}
		for k := range m {
			if !bytes.Equal(l[k], m[k]) {
				t.Fatalf("%s: content %d of line %d is % x, not % x", name, k, line, l[k], m[k])
			}
		}
	}
}

// keeps is each choice of what lines keep.
func keeps(d *pmem.Device) [][]int {
	l := [][]int{{}}
	for line := range d.Size() / 64 {
		var longer [][]int
		for _, keep := range l {
			for k := range d.Contents(line) {
				longer = append(longer, append(keep[:len(keep):len(keep)], k))
			}
		}
		l = longer
	}
	return l
}

// beginnings is devices of two lines: whose lines have one content; several; of which some are flushed, all of them or as they were ahead of a store.
func beginnings(t *testing.T) map[string]*pmem.Device {
	t.Helper()
	clean := from(t, rising(128))
	stored := clean.Copy()
	well(t, stored.Store8(0, 1), stored.Store(61, []byte("abcdef")), stored.Store8(120, 2))
	flushed := stored.Copy()
	well(t, flushed.Flush(0), flushed.Flush(127), flushed.Store8(56, 3))
	behind := clean.Copy()
	well(t, behind.Flush(5), behind.Store8(16, 4), behind.Flush(64), behind.Store8(64, 5), behind.Store8(64, 6))
	return map[string]*pmem.Device{"clean": clean, "stored": stored, "flushed": flushed, "flushed ahead": behind}
}

// calls is some of each kind: at both ends of 128 bytes, over the edges of words and of lines, of each width.
func calls() []call {
	l := []call{
		publishCall(0, 7), publishCall(8, 1<<63+1), publishCall(56, 0), publishCall(64, 0x0102030405060708), publishCall(120, 1<<64-1),
		fieldCall(0, uint8(0xa1), 1), fieldCall(63, uint8(0), 1), fieldCall(127, uint8(255), 1),
		fieldCall(7, uint16(0xb1b2), 2), fieldCall(63, uint16(0xb3b4), 2), fieldCall(126, uint16(1), 2),
		fieldCall(4, uint32(0xc1c2c3c4), 4), fieldCall(62, uint32(1<<31), 4), fieldCall(124, uint32(2), 4),
		fieldCall(56, uint64(3), 8), fieldCall(60, uint64(0xd1d2d3d4d5d6d7d8), 8), fieldCall(120, uint64(1<<63), 8),
	}
	for _, x := range [][2]int{{0, 1}, {63, 1}, {64, 1}, {127, 1}, {63, 2}, {7, 2}, {0, 64}, {1, 64}, {64, 64}, {60, 8}, {0, 128}, {5, 117}} {
		l = append(l, rangeCall(x[0], x[1]), bytesCall(x[0], other(x[1])))
	}
	return l
}
