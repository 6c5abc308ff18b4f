package ulog_test

import (
	"bytes"
	"encoding/binary"
	"hash/crc32"
	"math"
	"slices"
	"testing"

	"vellum/api"
	"vellum/pmem"
	"vellum/ulog"
)

func from(t *testing.T, image string) *pmem.Device {
	t.Helper()
	d, e := pmem.From([]byte(image))
	if e != api.OK {
		t.Fatalf("From %d bytes = %d", len(image), e)
	}
	return d
}

// well does calls that must go well.
func well(t *testing.T, codes ...api.Errno) {
	t.Helper()
	for i, e := range codes {
		if e != api.OK {
			t.Fatalf("call %d = %d", i, e)
		}
	}
}

// rising is n bytes of which no word is 0, and none is like the next one.
func rising(n int) string {
	b := make([]byte, n)
	for i := range b {
		b[i] = byte(i%251 + 1)
	}
	return string(b)
}

// zeros is n bytes 0.
func zeros(n int) string { return string(make([]byte, n)) }

// word is a number's eight bytes.
func word(v uint64) string { return string(binary.LittleEndian.AppendUint64(nil, v)) }

// over is an image with other bytes from a place on.
func over(image string, at int, b string) string {
	return image[:at] + b + image[at+len(b):]
}

// place is where a log lies.
type place struct{ at, size int }

func (p place) open(t *testing.T, d *pmem.Device) *ulog.Log {
	t.Helper()
	l, e := ulog.Open(d, p.at, p.size)
	if l == nil || e != api.OK {
		t.Fatalf("Open(%d, %d) = %v, %d", p.at, p.size, l, e)
	}
	return l
}

// empty is an image that rises, but that the number of records is 0.
func (p place) empty(size int) string { return over(rising(size), p.at, zeros(8)) }

// laid is an image that rises, but for the log: its number, and what its room begins with.
func (p place) laid(size int, n uint64, records ...string) string {
	image := over(rising(size), p.at, word(n))
	at := p.at + 64
	for _, r := range records {
		image = over(image, at, r)
		at += len(r)
	}
	return image
}

// holds says whether a byte may be one of an extent.
func (p place) holds(a uint64, size int) bool {
	return a >= 64 && a < uint64(size) && (a < uint64(p.at) || a >= uint64(p.at+p.size))
}

// may says whether an extent of these numbers may be, byte by byte.
func (p place) may(at, n uint64, size int) bool {
	if n < 1 || n > uint64(size) {
		return false
	}
	for i := range n {
		if at > math.MaxUint64-i || !p.holds(at+i, size) {
			return false
		}
	}
	return true
}

// lying is a record with an address and a length, whatever its old bytes are, and what stands behind them.
func lying(at, n uint64, old, behind string) string {
	b := word(at) + word(n)
	sum := crc32.Checksum([]byte(b+old), crc32.MakeTable(crc32.Castagnoli))
	return b + word(uint64(sum)) + old + behind
}

// record is a record as it must be.
func record(at int, old string) string {
	behind := 0
	for (len(old)+behind)%8 != 0 {
		behind++
	}
	return lying(uint64(at), uint64(len(old)), old, zeros(behind))
}

// held is what a log of an image holds, and whether it is a log's contents.
func (p place) held(image string) ([]api.Record, bool) {
	number := func(at int) uint64 { return binary.LittleEndian.Uint64([]byte(image[at : at+8])) }
	var l []api.Record
	at, end := p.at+64, p.at+p.size
	for n := number(p.at); n > 0; n-- {
		if at+24 > end || !p.may(number(at), number(at+8), len(image)) {
			return nil, false
		}
		from, to := int(number(at)), int(number(at)+number(at+8))
		if at+24+to-from > end {
			return nil, false
		}
		want := record(from, image[at+24:at+24+to-from])
		if at+len(want) > end || image[at:at+len(want)] != want {
			return nil, false
		}
		l = append(l, api.Record{At: from, Old: []byte(image[at+24 : at+24+to-from])})
		at += len(want)
	}
	return l, true
}

// of is the records of extents of an image.
func of(image string, extents []api.Extent) []api.Record {
	var l []api.Record
	for _, e := range extents {
		l = append(l, api.Record{At: e.At, Old: []byte(image[e.At : e.At+e.Len])})
	}
	return l
}

// alike says whether two lists of records tell the same.
func alike(a, b []api.Record) bool {
	return slices.EqualFunc(a, b, func(x, y api.Record) bool { return x.At == y.At && bytes.Equal(x.Old, y.Old) })
}

// takes is how many bytes the records of extents take.
func takes(extents []api.Extent) int {
	sum := 0
	for _, e := range extents {
		sum += len(record(0, zeros(e.Len)))
	}
	return sum
}

// op is one operation of a device.
type op func(d *pmem.Device) api.Errno

// storing is one operation for each word that has some of the bytes.
func storing(at int, b string) []op {
	var l []op
	for i := 0; i < len(b); {
		from, to := i, i+1
		for to < len(b) && (at+to)%8 != 0 {
			to++
		}
		l = append(l, func(d *pmem.Device) api.Errno { return d.Store(at+from, []byte(b[from:to])) })
		i = to
	}
	return l
}

// flushing is a flush of each line that has some of the bytes.
func flushing(at, n int) []op {
	var l []op
	for a := at; a < at+n; a++ {
		if a == at || a%64 == 0 {
			l = append(l, func(d *pmem.Device) api.Errno { return d.Flush(a) })
		}
	}
	return l
}

// publishing is the operations by which the number of records is told.
func (p place) publishing(n int) []op {
	return []op{
		func(d *pmem.Device) api.Errno { return d.Store8(p.at, uint64(n)) },
		func(d *pmem.Device) api.Errno { return d.Flush(p.at) },
		(*pmem.Device).Fence,
	}
}

// writing is the operations of a Write on a device that is seen as this image.
func (p place) writing(image string, extents []api.Extent) []op {
	if len(extents) == 0 {
		return nil
	}
	var l []op
	at := p.at + 64
	for _, x := range of(image, extents) {
		r := record(x.At, string(x.Old))
		l = append(l, storing(at, r)...)
		at += len(r)
	}
	l = append(l, flushing(p.at+64, at-p.at-64)...)
	return append(append(l, (*pmem.Device).Fence), p.publishing(len(extents))...)
}

// rolling is the operations of a Rollback of these records.
func (p place) rolling(records []api.Record) []op {
	if len(records) == 0 {
		return nil
	}
	var l []op
	for i := len(records) - 1; i >= 0; i-- {
		r := records[i]
		l = append(append(l, storing(r.At, string(r.Old))...), flushing(r.At, len(r.Old))...)
	}
	return append(append(l, (*pmem.Device).Fence), p.publishing(0)...)
}

// same holds all that two devices tell against each other: now, and, if they are on, behind a Fence, which tells what was flushed.
func same(t *testing.T, name string, d, want *pmem.Device) {
	t.Helper()
	told(t, name, d, want)
	if !want.Off() {
		a, b := d.Copy(), want.Copy()
		if e, f := a.Fence(), b.Fence(); e != f {
			t.Fatalf("%s, Fence = %d, not %d", name, e, f)
		}
		told(t, name+", Fence", a, b)
	}
}

func told(t *testing.T, name string, d, want *pmem.Device) {
	t.Helper()
	if d.Ops() != want.Ops() || d.Off() != want.Off() || d.Size() != want.Size() {
		t.Fatalf("%s: %d operations, off %v, %d bytes; not %d, %v, %d", name, d.Ops(), d.Off(), d.Size(), want.Ops(), want.Off(), want.Size())
	}
	for line := range want.Size() / 64 {
		l, m := d.Contents(line), want.Contents(line)
		if len(l) != len(m) {
			t.Fatalf("%s: line %d has %d contents, not %d", name, line, len(l), len(m))
		}
		for k := range m {
			if !bytes.Equal(l[k], m[k]) {
				t.Fatalf("%s: content %d of line %d is % x, not % x", name, k, line, l[k], m[k])
			}
		}
	}
}

// keeps is each choice of what lines keep.
func keeps(d *pmem.Device) [][]int {
	l := [][]int{{}}
	for line := range d.Size() / 64 {
		var longer [][]int
		for _, keep := range l {
			for k := range d.Contents(line) {
				longer = append(longer, append(keep[:len(keep):len(keep)], k))
			}
		}
		l = longer
	}
	return l
}

// call is a call of a log, what it must answer where the power stays, and the operations that it comes to.
type call struct {
	name string
	do   func(l *ulog.Log) (int, api.Errno)
	want int
	ops  []op
}

func (p place) write(image string, extents ...api.Extent) call {
	do := func(l *ulog.Log) (int, api.Errno) { return 0, l.Write(extents...) }
	return call{"Write", do, 0, p.writing(image, extents)}
}

func (p place) clear() call {
	do := func(l *ulog.Log) (int, api.Errno) { return 0, l.Clear() }
	return call{"Clear", do, 0, p.publishing(0)}
}

func (p place) rollback(records []api.Record) call {
	return call{"Rollback", (*ulog.Log).Rollback, len(records), p.rolling(records)}
}

// goesWell makes a call on a copy, holds what it did against its operations on another one, and hands the copy on.
func (p place) goesWell(t *testing.T, name string, d *pmem.Device, c call) *pmem.Device {
	t.Helper()
	got, want := d.Copy(), d.Copy()
	if n, e := c.do(p.open(t, got)); n != c.want || e != api.OK {
		t.Fatalf("%s: %s = %d, %d; not %d", name, c.name, n, e, c.want)
	}
	for _, o := range c.ops {
		well(t, o(want))
	}
	same(t, name+": "+c.name, got, want)
	return got
}

// refuses makes a call that answers an error, and does nothing.
func (p place) refuses(t *testing.T, name string, d *pmem.Device, want api.Errno, do func(l *ulog.Log) (int, api.Errno)) {
	t.Helper()
	got := d.Copy()
	if n, e := do(p.open(t, got)); n != 0 || e != want {
		t.Fatalf("%s = %d, %d; not 0, %d", name, n, e, want)
	}
	same(t, name, got, d)
}

// tells asks for the records, which is no operation.
func (p place) tells(t *testing.T, name string, d *pmem.Device, want []api.Record, code api.Errno) {
	t.Helper()
	ops := d.Ops()
	if l, e := p.open(t, d).Records(); !alike(l, want) || e != code || d.Ops() != ops {
		t.Fatalf("%s: Records = %v, %d; not %v, %d; %d operations", name, l, e, want, code, d.Ops()-ops)
	}
}

// odd is numbers at the ends of ints, and at those of narrower ones.
func odd() []int {
	return []int{
		math.MinInt, math.MinInt + 1, math.MinInt + 64, math.MinInt + 128, -1 << 62, -1 << 32, -1 << 31, -1 << 22,
		1 << 22, 1<<22 + 64, 1 << 31, 1 << 32, 1<<32 + 64, 1<<32 + 128, 1 << 62,
		math.MaxInt - 191, math.MaxInt - 127, math.MaxInt - 63, math.MaxInt - 8, math.MaxInt - 1, math.MaxInt,
	}
}
