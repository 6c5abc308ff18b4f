package super_test

import (
	"bytes"
	"encoding/binary"
	"hash/crc32"
	"math"
	"testing"

	"vellum/api"
	"vellum/pmem"
)

// The chapter's numbers, told here once more.
const (
	least    = 36992
	greatest = 4194304
	behind   = 192 // what the heads end at
)

// planOf is the plan of a size, its blocks laid one by one; the zero plan of a size that may not be.
func planOf(size int) api.Super {
	if size < least || size > greatest || size&63 != 0 {
		return api.Super{}
	}
	s := api.Super{Size: size, LogAt: 128, LogSize: 32768, HeapAt: 32896}
	for end := s.HeapAt + 256; end <= size; end += 256 {
		s.Blocks++
	}
	return s
}

// laid is a superblock of a beginning and six numbers, with their sum, whatever they are.
func laid(begin string, numbers ...uint64) string {
	b := []byte(begin)
	for _, n := range numbers {
		b = binary.LittleEndian.AppendUint64(b, n)
	}
	sum := crc32.Checksum(b, crc32.MakeTable(crc32.Castagnoli))
	return string(binary.LittleEndian.AppendUint64(b, uint64(sum)))
}

// laidOf is a superblock of these fields, and the number 0.
func laidOf(s api.Super) string {
	return laid("VELLUM01", uint64(s.Size), uint64(s.LogAt), uint64(s.LogSize), uint64(s.HeapAt), uint64(s.Blocks), 0)
}

func made(t *testing.T, size int) *pmem.Device {
	t.Helper()
	d, e := pmem.New(size)
	if e != api.OK {
		t.Fatalf("New(%d) = %d", size, e)
	}
	return d
}

func from(t *testing.T, image string) *pmem.Device {
	t.Helper()
	d, e := pmem.From([]byte(image))
	if e != api.OK {
		t.Fatalf("From %d bytes = %d", len(image), e)
	}
	return d
}

// well does calls that must go well.
func well(t *testing.T, codes ...api.Errno) {
	t.Helper()
	for i, e := range codes {
		if e != api.OK {
			t.Fatalf("call %d = %d", i, e)
		}
	}
}

// rising is n bytes of which no word is 0, and none is like the next one.
func rising(n int) string {
	b := make([]byte, n)
	for i := range b {
		b[i] = byte(i%251 + 1)
	}
	return string(b)
}

// begins is an image of so many bytes that begins with these, and rises behind them.
func begins(size int, with string) string {
	return with + rising(size)[len(with):]
}

// zeros is n bytes 0.
func zeros(n int) string { return string(make([]byte, n)) }

// op is one operation of a device.
type op func(d *pmem.Device) api.Errno

// formatting is the operations of a Format, one by one, as the chapter's words tell them.
func formatting(size int) []op {
	var l []op
	lay := func(at int, b string) {
		for i := 0; i < 64; i += 8 {
			v := binary.LittleEndian.Uint64([]byte(b[i : i+8]))
			l = append(l, func(d *pmem.Device) api.Errno { return d.Store8(at+i, v) })
		}
		l = append(l, func(d *pmem.Device) api.Errno { return d.Flush(at) }, (*pmem.Device).Fence)
	}
	lay(0, zeros(64))
	lay(64, zeros(64))
	lay(128, zeros(64))
	lay(0, laidOf(planOf(size)))
	return l
}

// same holds all that two devices tell against each other: now, and, if they are on, behind a Fence, which tells what was flushed.
func same(t *testing.T, name string, d, want *pmem.Device) {
	t.Helper()
	told(t, name, d, want)
	if !want.Off() {
		a, b := d.Copy(), want.Copy()
		if e, f := a.Fence(), b.Fence(); e != f {
			t.Fatalf("%s, Fence = %d, not %d", name, e, f)
		}
		told(t, name+", Fence", a, b)
	}
}

func told(t *testing.T, name string, d, want *pmem.Device) {
	t.Helper()
	if d.Ops() != want.Ops() || d.Off() != want.Off() || d.Size() != want.Size() {
		t.Fatalf("%s: %d operations, off %v, %d bytes; not %d, %v, %d", name, d.Ops(), d.Off(), d.Size(), want.Ops(), want.Off(), want.Size())
	}
	for line := range want.Size() / 64 {
		l, m := d.Contents(line), want.Contents(line)
		if len(l) != len(m) {
			t.Fatalf("%s: line %d has %d contents, not %d", name, line, len(l), len(m))
		}
		for k := range m {
			if !bytes.Equal(l[k], m[k]) {
				t.Fatalf("%s: content %d of line %d is % x, not % x", name, k, line, l[k], m[k])
			}
		}
	}
}

// keeps is each choice of what the first three lines keep.
func keeps(d *pmem.Device) [][]int {
	var l [][]int
	for i := range d.Contents(0) {
		for j := range d.Contents(1) {
			for k := range d.Contents(2) {
				l = append(l, []int{i, j, k})
			}
		}
	}
	return l
}

// odd is sizes far from those that may be.
func odd() []int {
	return []int{
		math.MinInt, math.MinInt + 1, math.MinInt + 64, math.MinInt + least, -greatest, -least, -1 << 32, -1 << 31,
		1 << 31, 1<<31 + least, 1 << 32, 1<<32 + least, 1<<32 + greatest, 1 << 62, 1<<62 + least,
		math.MaxInt - 63, math.MaxInt - 1, math.MaxInt,
	}
}
