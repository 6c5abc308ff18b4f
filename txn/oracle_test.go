package txn_test

import (
	"bytes"
	"encoding/binary"
	"fmt"
	"hash/crc32"
	"math"
	"slices"
	"testing"

	"vellum/api"
	"vellum/pmem"
	"vellum/txn"
	"vellum/ulog"
)

func from(t *testing.T, image string) *pmem.Device {
	t.Helper()
	d, e := pmem.From([]byte(image))
	if e != api.OK {
		t.Fatalf("From %d bytes = %d", len(image), e)
	}
	return d
}

// well does calls that must go well.
func well(t *testing.T, codes ...api.Errno) {
	t.Helper()
	for i, e := range codes {
		if e != api.OK {
			t.Fatalf("call %d = %d", i, e)
		}
	}
}

// refused holds what calls answered against an error.
func refused(t *testing.T, name string, want api.Errno, codes ...api.Errno) {
	t.Helper()
	for i, e := range codes {
		if e != want {
			t.Fatalf("%s: call %d = %d, not %d", name, i, e, want)
		}
	}
}

// rising is n bytes of which none is 0, and none is like the next one.
func rising(n int) string {
	b := make([]byte, n)
	for i := range b {
		b[i] = byte(i%251 + 1)
	}
	return string(b)
}

// zeros is n bytes 0.
func zeros(n int) string { return string(make([]byte, n)) }

// word is a number's eight bytes.
func word(v uint64) string { return string(binary.LittleEndian.AppendUint64(nil, v)) }

// over is an image with other bytes from a place on.
func over(image string, at int, b string) string {
	return image[:at] + b + image[at+len(b):]
}

// odd is numbers at the ends of ints, and at those of narrower ones.
func odd() []int {
	return []int{
		math.MinInt, math.MinInt + 1, math.MinInt + 64, -1 << 62, -1 << 32, -1 << 31, -1 << 22,
		1 << 22, 1<<22 + 64, 1 << 31, 1 << 32, 1<<32 + 64, 1 << 62,
		math.MaxInt - 511, math.MaxInt - 63, math.MaxInt - 8, math.MaxInt - 1, math.MaxInt,
	}
}

// place is where a log lies.
type place struct{ at, size int }

// log is a new one.
func (p place) log(t *testing.T, d *pmem.Device) *ulog.Log {
	t.Helper()
	l, e := ulog.Open(d, p.at, p.size)
	if l == nil || e != api.OK {
		t.Fatalf("Open(%d, %d) = %v, %d", p.at, p.size, l, e)
	}
	return l
}

// pool is a new one, of a new log.
func (p place) pool(t *testing.T, d *pmem.Device) *txn.Pool {
	t.Helper()
	q, e := txn.New(d, p.log(t, d))
	if q == nil || e != api.OK {
		t.Fatalf("New = %v, %d", q, e)
	}
	return q
}

func begun(t *testing.T, p *txn.Pool) *txn.Txn {
	t.Helper()
	x, e := p.Begin()
	if x == nil || e != api.OK {
		t.Fatalf("Begin = %v, %d", x, e)
	}
	return x
}

// empty is an image that rises, but that the number of records is 0.
func (p place) empty(size int) string { return over(rising(size), p.at, zeros(8)) }

// may says whether the log takes an extent.
func (p place) may(x api.Extent, size int) bool {
	end := x.At + x.Len
	return x.At >= 64 && end <= p.at || x.At >= p.at+p.size && end <= size
}

// record is the bytes of a record.
func record(at int, old string) string {
	b := word(uint64(at)) + word(uint64(len(old)))
	b += word(uint64(crc32.Checksum([]byte(b+old), crc32.MakeTable(crc32.Castagnoli)))) + old
	for len(b)%8 != 0 {
		b += "\x00"
	}
	return b
}

// records is those of extents of an image, one behind the other.
func records(image string, extents []api.Extent) string {
	b := ""
	for _, x := range extents {
		b += record(x.At, image[x.At:x.At+x.Len])
	}
	return b
}

// laid is an image whose log holds the records of extents.
func (p place) laid(image string, extents ...api.Extent) string {
	return over(over(image, p.at, word(uint64(len(extents)))), p.at+64, records(image, extents))
}

// op is one operation of a device, and how it is told.
type op struct {
	name string
	do   func(d *pmem.Device) api.Errno
}

// storing is one operation for each word that has some of the bytes.
func storing(at int, b string) []op {
	var l []op
	for i := 0; i < len(b); {
		from, to := i, i+1
		for to < len(b) && (at+to)%8 != 0 {
			to++
		}
		l = append(l, op{fmt.Sprintf("Store %d % x", at+from, b[from:to]), func(d *pmem.Device) api.Errno { return d.Store(at+from, []byte(b[from:to])) }})
		i = to
	}
	return l
}

func flushing(at int) op {
	return op{fmt.Sprint("Flush ", at), func(d *pmem.Device) api.Errno { return d.Flush(at) }}
}

func fence() op { return op{"Fence", (*pmem.Device).Fence} }

// publishing is the operations by which the number of records is told.
func (p place) publishing(n int) []op {
	return append(storing(p.at, word(uint64(n))), flushing(p.at), fence())
}

// logging is the operations by which the log of a device that is seen as this image gets the records of extents.
func (p place) logging(image string, extents []api.Extent) []op {
	b := records(image, extents)
	l := storing(p.at+64, b)
	for at := 0; at < len(b); at += 64 {
		l = append(l, flushing(p.at+64+at))
	}
	return append(append(l, fence()), p.publishing(len(extents))...)
}

// rolling is the operations of a Recover, where the log of this image holds the records of extents.
func (p place) rolling(image string, extents []api.Extent) []op {
	var l []op
	at := p.at + 64 + len(records(image, extents))
	for _, x := range slices.Backward(extents) {
		at -= len(record(0, zeros(x.Len)))
		l = append(l, storing(x.At, image[at+24:at+24+x.Len])...)
		for line := x.At / 64 * 64; line < x.At+x.Len; line += 64 {
			l = append(l, flushing(line))
		}
	}
	if len(extents) == 0 {
		return nil
	}
	return append(append(l, fence()), p.publishing(0)...)
}

// put is bytes that are put into a transaction.
type put struct {
	at    int
	b     string
	fresh bool
}

func stored(at int, b string) put    { return put{at, b, false} }
func freshened(at int, b string) put { return put{at, b, true} }

func (u put) String() string {
	if u.fresh {
		return fmt.Sprintf("Fresh(%d, % x)", u.at, u.b)
	}
	return fmt.Sprintf("Store(%d, % x)", u.at, u.b)
}

// into puts the bytes into a transaction.
func (u put) into(x *txn.Txn) api.Errno {
	if u.fresh {
		return x.Fresh(u.at, []byte(u.b))
	}
	return x.Store(u.at, []byte(u.b))
}

// cell is a byte that was put in.
type cell struct {
	b     byte
	fresh bool
}

// model is a transaction as the chapter's words tell it: each byte by itself, by its address.
type model map[int]cell

func modelOf(puts []put) model {
	m := model{}
	for _, u := range puts {
		for i := range len(u.b) {
			c, is := m[u.at+i]
			if !is {
				c.fresh = u.fresh
			}
			c.b = u.b[i]
			m[u.at+i] = c
		}
	}
	return m
}

// shown is an image with the bytes that were put in.
func (m model) shown(image string) string {
	b := []byte(image)
	for at, c := range m {
		b[at] = c.b
	}
	return string(b)
}

// changed is an image with the bytes of a kind alone.
func (m model) changed(image string, fresh bool) string {
	b := []byte(image)
	for at, c := range m {
		if c.fresh == fresh {
			b[at] = c.b
		}
	}
	return string(b)
}

// is says whether a byte of a kind stands at an address.
func (m model) is(at int, fresh bool) bool {
	c, is := m[at]
	return is && c.fresh == fresh
}

// runs is the runs of a kind on a device of so many bytes.
func (m model) runs(size int, fresh bool) []api.Extent {
	var l []api.Extent
	for at := range size {
		switch {
		case !m.is(at, fresh):
		case m.is(at-1, fresh):
			l[len(l)-1].Len++
		default:
			l = append(l, api.Extent{At: at, Len: 1})
		}
	}
	return l
}

// writing is the operations by which the bytes of a kind are written.
func (m model) writing(size int, fresh bool) []op {
	var l, flushes []op
	image := m.shown(zeros(size))
	for _, x := range m.runs(size, fresh) {
		l = append(l, storing(x.At, image[x.At:x.At+x.Len])...)
	}
	for line := 0; line < size; line += 64 {
		for at := line; at < line+64; at++ {
			if m.is(at, fresh) {
				flushes = append(flushes, flushing(line))
				break
			}
		}
	}
	return append(l, flushes...)
}

// refusal is the error that the log has of the logged bytes, on a device that is seen as this image.
func (m model) refusal(p place, image string) api.Errno {
	extents := m.runs(len(image), false)
	if image[p.at:p.at+8] != zeros(8) {
		return api.ErrState
	}
	for _, x := range extents {
		if !p.may(x, len(image)) {
			return api.ErrRange
		}
	}
	if len(records(image, extents)) > p.size-64 {
		return api.ErrFull
	}
	return api.OK
}

// committing is the operations of a Commit on a device that is seen as this image, and what it answers.
func (m model) committing(p place, image string) ([]op, api.Errno) {
	size := len(image)
	l := m.writing(size, true)
	extents := m.runs(size, false)
	if len(extents) == 0 {
		if len(l) > 0 {
			l = append(l, fence())
		}
		return l, api.OK
	}
	image = m.changed(image, true)
	if e := m.refusal(p, image); e != api.OK {
		return l, e
	}
	l = append(l, p.logging(image, extents)...)
	l = append(append(l, m.writing(size, false)...), fence())
	return append(l, p.publishing(0)...), api.OK
}

// same holds all that two devices tell against each other: now, and, if they are on, behind a Fence, which tells what was flushed.
func same(t *testing.T, name string, d, want *pmem.Device) {
	t.Helper()
	told(t, name, d, want)
	if !want.Off() {
		a, b := d.Copy(), want.Copy()
		if e, f := a.Fence(), b.Fence(); e != f {
			t.Fatalf("%s, Fence = %d, not %d", name, e, f)
		}
		told(t, name+", Fence", a, b)
	}
}

func told(t *testing.T, name string, d, want *pmem.Device) {
	t.Helper()
	if d.Ops() != want.Ops() || d.Off() != want.Off() || d.Size() != want.Size() {
		t.Fatalf("%s: %d operations, off %v, %d bytes; not %d, %v, %d", name, d.Ops(), d.Off(), d.Size(), want.Ops(), want.Off(), want.Size())
	}
	for line := range want.Size() / 64 {
		l, m := d.Contents(line), want.Contents(line)
		if len(l) != len(m) {
			t.Fatalf("%s: line %d has %d contents, not %d", name, line, len(l), len(m))
		}
		for k := range m {
			if !bytes.Equal(l[k], m[k]) {
				t.Fatalf("%s: content %d of line %d is % x, not % x", name, k, line, l[k], m[k])
			}
		}
	}
}

// tells holds what a transaction tells against the model: the whole of it, and its extents; neither is an operation.
func tells(t *testing.T, name string, d *pmem.Device, x *txn.Txn, m model) {
	t.Helper()
	ops := d.Ops()
	if b, e := x.Load(0, d.Size()); string(b) != m.shown(string(d.Image())) || e != api.OK {
		t.Fatalf("%s: Load = % x, %d", name, b, e)
	}
	extents(t, name, x, m.runs(d.Size(), false))
	if d.Ops() != ops {
		t.Fatalf("%s: %d operations", name, d.Ops()-ops)
	}
}

func extents(t *testing.T, name string, x *txn.Txn, want []api.Extent) {
	t.Helper()
	if l := x.Extents(); !slices.Equal(l, want) {
		t.Fatalf("%s: Extents = %v, not %v", name, l, want)
	}
}

// ended holds that a transaction is over: each call of it is ErrState, ahead of wrong places, and it tells nothing.
func ended(t *testing.T, name string, x *txn.Txn) {
	t.Helper()
	for _, at := range []int{0, -1, math.MaxInt} {
		b, e := x.Load(at, 0)
		if len(b) != 0 {
			t.Fatalf("%s: % x beside an error", name, b)
		}
		refused(t, name+", over", api.ErrState, e, x.Store(at, []byte{1}), x.Fresh(at, nil), x.Commit(), x.Drop())
	}
	extents(t, name+", over", x, nil)
}

// filled begins a transaction and puts bytes in, which is nothing to the device.
func (p place) filled(t *testing.T, name string, d *pmem.Device, puts []put) (*txn.Pool, *txn.Txn) {
	t.Helper()
	was := d.Copy()
	pool := p.pool(t, d)
	x := begun(t, pool)
	for _, u := range puts {
		well(t, u.into(x))
	}
	tells(t, name, d, x, modelOf(puts))
	same(t, name, d, was)
	return pool, x
}

// commits makes a Commit on a copy, holds what it did against its operations on another one, and hands the copy on.
func (p place) commits(t *testing.T, name string, d *pmem.Device, puts []put) *pmem.Device {
	t.Helper()
	got, want := d.Copy(), d.Copy()
	m := modelOf(puts)
	pool, x := p.filled(t, name, got, puts)
	ops, code := m.committing(p, string(d.Image()))
	if e := x.Commit(); e != code {
		t.Fatalf("%s: Commit = %d, not %d", name, e, code)
	}
	for _, o := range ops {
		well(t, o.do(want))
	}
	same(t, name+": Commit", got, want)
	if code == api.OK {
		ended(t, name, x)
		// Fresh bytes may have gone where the number stands.
		if string(got.Image()[p.at:p.at+8]) == zeros(8) {
			begun(t, pool)
		}
		return got
	}
	tells(t, name+", refused", got, x, m)
	_, e := pool.Begin()
	refused(t, name+", refused", api.ErrState, e)
	return got
}
