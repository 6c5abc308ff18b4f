package blocks_test

import (
	"bytes"
	"encoding/binary"
	"fmt"
	"hash/crc32"
	"maps"
	"math"
	"slices"
	"testing"

	"vellum/api"
	"vellum/blocks"
	"vellum/pmem"
	"vellum/txn"
	"vellum/ulog"
)

func from(t *testing.T, image string) *pmem.Device {
	t.Helper()
	d, e := pmem.From([]byte(image))
	if e != api.OK {
		t.Fatalf("From %d bytes = %d", len(image), e)
	}
	return d
}

// well does calls that must go well.
func well(t *testing.T, codes ...api.Errno) {
	t.Helper()
	for i, e := range codes {
		if e != api.OK {
			t.Fatalf("call %d = %d", i, e)
		}
	}
}

// refused holds what calls answered against an error.
func refused(t *testing.T, name string, want api.Errno, codes ...api.Errno) {
	t.Helper()
	for i, e := range codes {
		if e != want {
			t.Fatalf("%s: call %d = %d, not %d", name, i, e, want)
		}
	}
}

// second is the error of a call that answers something else, too.
func second[T any](_ T, e api.Errno) api.Errno { return e }

// rising is n bytes of which none is 0, and none is like the next one.
func rising(n int) string {
	b := make([]byte, n)
	for i := range b {
		b[i] = byte(i%251 + 1)
	}
	return string(b)
}

// zeros is n bytes 0.
func zeros(n int) string { return string(make([]byte, n)) }

// word is a number's eight bytes.
func word(v uint64) string { return string(binary.LittleEndian.AppendUint64(nil, v)) }

// filled is a block of one byte.
func filled(b byte) string { return string(bytes.Repeat([]byte{b}, 256)) }

// over is an image with other bytes from a place on.
func over(image string, at int, b string) string {
	return image[:at] + b + image[at+len(b):]
}

// odd is numbers at the ends of ints, and at those of narrower ones.
func odd() []int {
	return []int{
		math.MinInt, math.MinInt + 1, math.MinInt + 64, -1 << 62, -1 << 56, -1 << 32, -1 << 31, -1 << 22,
		1 << 22, 1<<22 + 64, 1 << 31, 1 << 32, 1<<32 + 64, 1 << 54, 1<<55 - 1, 1 << 55, 1 << 56, 1 << 62,
		math.MaxInt - 511, math.MaxInt - 63, math.MaxInt - 8, math.MaxInt - 1, math.MaxInt,
	}
}

// subsets is all of them of the numbers from 0 to n - 1, each rising.
func subsets(n int) [][]int {
	var l [][]int
	for bits := range 1 << n {
		var s []int
		for b := range n {
			if bits>>b&1 == 1 {
				s = append(s, b)
			}
		}
		l = append(l, s)
	}
	return l
}

// ground is where a log and the blocks of a heap lie.
type ground struct{ logAt, logSize, at, n int }

// size is that of a device which ends where the heap does.
func (g ground) size() int { return g.at + 256*g.n }

// place is where a block begins.
func (g ground) place(b int) int { return g.at + 256*b }

// image is bytes that rise, but that the number of records is 0.
func (g ground) image() string { return over(rising(g.size()), g.logAt, zeros(8)) }

// the is the ground of the chapter's examples.
func the() ground { return ground{128, 192, 320, 8} }

// roomy is one whose log takes just the root and four blocks, each with a record of its own.
func roomy(n int) ground { return ground{128, 64 + 32 + 4*280, 1344, n} }

func (g ground) log(t *testing.T, d *pmem.Device) *ulog.Log {
	t.Helper()
	l, e := ulog.Open(d, g.logAt, g.logSize)
	if l == nil || e != api.OK {
		t.Fatalf("Open(%d, %d) = %v, %d", g.logAt, g.logSize, l, e)
	}
	return l
}

// pool is a new one, of a new log.
func (g ground) pool(t *testing.T, d *pmem.Device) *txn.Pool {
	t.Helper()
	p, e := txn.New(d, g.log(t, d))
	if p == nil || e != api.OK {
		t.Fatalf("New of a pool = %v, %d", p, e)
	}
	return p
}

// heap is a new one, of a new pool, with live blocks.
func (g ground) heap(t *testing.T, d *pmem.Device, live ...int) *blocks.Heap {
	t.Helper()
	h, e := blocks.New(g.pool(t, d), g.at, g.n)
	if h == nil || e != api.OK {
		t.Fatalf("New = %v, %d", h, e)
	}
	well(t, h.Load(live))
	return h
}

func begun(t *testing.T, h *blocks.Heap) *blocks.Work {
	t.Helper()
	w, e := h.Begin()
	if w == nil || e != api.OK {
		t.Fatalf("Begin = %v, %d", w, e)
	}
	return w
}

// taken is a block that a work takes.
func taken(t *testing.T, w *blocks.Work) int {
	t.Helper()
	b, e := w.Take()
	well(t, e)
	return b
}

// lives holds what a heap tells against the blocks that are live.
func lives(t *testing.T, name string, h *blocks.Heap, n int, want ...int) {
	t.Helper()
	if l, r := h.Lives(), h.Room(); !slices.Equal(l, want) || r != (api.Room{Blocks: n, Live: len(want), Free: n - len(want)}) {
		t.Fatalf("%s: live are %v, %v; not %v of %d", name, l, r, want, n)
	}
}

// ended holds that a work is over: each call of it is ErrState, ahead of wrong arguments, and it tells nothing but how many blocks there are.
func ended(t *testing.T, name string, w *blocks.Work, n int) {
	t.Helper()
	for _, b := range []int{0, -1, math.MaxInt} {
		got, e := w.Take()
		data, f := w.Read(b)
		root, g := w.Root()
		if got != 0 || len(data) != 0 || root != 0 {
			t.Fatalf("%s: %d, % x, %d beside errors", name, got, data, root)
		}
		refused(t, name+", over", api.ErrState, e, f, g, w.Give(b), w.Write(b, make([]byte, 256)), w.Write(b, nil), w.SetRoot(7), w.Commit(), w.Drop())
	}
	if len(w.Taken()) != 0 || len(w.Given()) != 0 || w.Blocks() != n {
		t.Fatalf("%s, over: taken %v, given %v, %d blocks", name, w.Taken(), w.Given(), w.Blocks())
	}
}

// model is a work as the chapter's words tell it, on a device that is seen as an image.
type model struct {
	ground
	image  string
	live   map[int]bool
	taken  map[int]bool
	given  map[int]bool
	fresh  map[int]string // blocks that were written while they were taken, also if they were given back then
	logged map[int]string // blocks that were written while they were live, likewise
	root   string         // what the root was set to; empty: it was not
}

func modelOf(g ground, image string, live ...int) *model {
	m := &model{ground: g, image: image, live: map[int]bool{}, taken: map[int]bool{}, given: map[int]bool{}, fresh: map[int]string{}, logged: map[int]string{}}
	for _, b := range live {
		m.live[b] = true
	}
	return m
}

// numbers is those of a map, rising.
func numbers[T any](m map[int]T) []int { return slices.Sorted(maps.Keys(m)) }

// uses says whether a block is in use.
func (m *model) uses(b int) bool { return m.taken[b] || m.live[b] && !m.given[b] }

// inUse is the blocks that are.
func (m *model) inUse() []int {
	var l []int
	for b := range m.n {
		if m.uses(b) {
			l = append(l, b)
		}
	}
	return l
}

func (m *model) take() (int, api.Errno) {
	for b := range m.n {
		if !m.live[b] && !m.taken[b] {
			m.taken[b] = true
			return b, api.OK
		}
	}
	return 0, api.ErrSpace
}

func (m *model) give(b int) api.Errno {
	switch {
	case !m.uses(b):
		return api.ErrBlock
	case m.taken[b]:
		delete(m.taken, b)
	default:
		m.given[b] = true
	}
	return api.OK
}

func (m *model) write(b int, data string) api.Errno {
	switch {
	case !m.uses(b):
		return api.ErrBlock
	case len(data) != 256:
		return api.ErrArg
	case m.taken[b]:
		m.fresh[b] = data
	default:
		m.logged[b] = data
	}
	return api.OK
}

// changed is the image with what was put in.
func (m *model) changed() string {
	image := m.image
	for b, data := range m.fresh {
		image = over(image, m.place(b), data)
	}
	for b, data := range m.logged {
		image = over(image, m.place(b), data)
	}
	return over(image, 64, m.root)
}

// block is the bytes of a block of an image.
func (g ground) block(image string, b int) string { return image[g.place(b):g.place(b+1)] }

// tells holds all that a work and its heap tell against the model; nothing of it is an operation.
func (m *model) tells(t *testing.T, name string, d *pmem.Device, h *blocks.Heap, w *blocks.Work) {
	t.Helper()
	ops := d.Ops()
	if l, k := w.Taken(), w.Given(); !slices.Equal(l, numbers(m.taken)) || !slices.Equal(k, numbers(m.given)) || w.Blocks() != m.n {
		t.Fatalf("%s: taken %v, given %v, %d blocks; not %v, %v, %d", name, l, k, w.Blocks(), numbers(m.taken), numbers(m.given), m.n)
	}
	lives(t, name, h, m.n, numbers(m.live)...)
	image := m.changed()
	for b := -1; b <= m.n; b++ {
		data, e := w.Read(b)
		if m.uses(b) && (string(data) != m.block(image, b) || e != api.OK) || !m.uses(b) && (len(data) != 0 || e != api.ErrBlock) {
			t.Fatalf("%s: Read(%d) = % x, %d", name, b, data, e)
		}
	}
	if v, e := w.Root(); word(v) != image[64:72] || e != api.OK {
		t.Fatalf("%s: Root = %d, %d, not % x", name, v, e, image[64:72])
	}
	if d.Ops() != ops {
		t.Fatalf("%s: %d operations", name, d.Ops()-ops)
	}
}

// act is one call of a work.
type act struct {
	name string
	do   func(w *blocks.Work) (int, api.Errno)
	on   func(m *model) (int, api.Errno)
}

func take() act { return act{"Take", (*blocks.Work).Take, (*model).take} }

func give(b int) act {
	return act{
		fmt.Sprintf("Give(%d)", b),
		func(w *blocks.Work) (int, api.Errno) { return 0, w.Give(b) },
		func(m *model) (int, api.Errno) { return 0, m.give(b) },
	}
}

func write(b int, data string) act {
	return act{
		fmt.Sprintf("Write(%d, %d bytes %.4x)", b, len(data), data),
		func(w *blocks.Work) (int, api.Errno) { return 0, w.Write(b, []byte(data)) },
		func(m *model) (int, api.Errno) { return 0, m.write(b, data) },
	}
}

func setRoot(v uint64) act {
	return act{
		fmt.Sprintf("SetRoot(%d)", v),
		func(w *blocks.Work) (int, api.Errno) { return 0, w.SetRoot(v) },
		func(m *model) (int, api.Errno) {
			m.root = word(v)
			return 0, api.OK
		},
	}
}

// does makes an act in a work, and holds what it answers against the model.
func (a act) does(t *testing.T, name string, w *blocks.Work, m *model) {
	t.Helper()
	got, e := a.do(w)
	want, f := a.on(m)
	if got != want || e != f {
		t.Fatalf("%s: %s = %d, %d; not %d, %d", name, a.name, got, e, want, f)
	}
}

// named is what acts are called.
func named(acts []act) string {
	name := ""
	for _, a := range acts {
		name += a.name + " "
	}
	return name
}

// record is the bytes of a record.
func record(at int, old string) string {
	b := word(uint64(at)) + word(uint64(len(old)))
	b += word(uint64(crc32.Checksum([]byte(b+old), crc32.MakeTable(crc32.Castagnoli)))) + old
	for len(b)%8 != 0 {
		b += "\x00"
	}
	return b
}

// extents is what of the logged bytes is next to one another: the root, and rows of blocks.
func (m *model) extents() []api.Extent {
	var l []api.Extent
	if m.root != "" {
		l = append(l, api.Extent{At: 64, Len: 8})
	}
	for _, b := range numbers(m.logged) {
		if _, is := m.logged[b-1]; is {
			l[len(l)-1].Len += 256
		} else {
			l = append(l, api.Extent{At: m.place(b), Len: 256})
		}
	}
	return l
}

// records is those of extents of an image, one behind the other.
func records(image string, extents []api.Extent) string {
	b := ""
	for _, x := range extents {
		b += record(x.At, image[x.At:x.At+x.Len])
	}
	return b
}

// op is one operation of a device, and how it is told.
type op struct {
	name string
	do   func(d *pmem.Device) api.Errno
}

// storing is one operation for each word of bytes that begin with one.
func storing(at int, b string) []op {
	var l []op
	for i := 0; i < len(b); i += 8 {
		l = append(l, op{fmt.Sprintf("Store %d % x", at+i, b[i:i+8]), func(d *pmem.Device) api.Errno { return d.Store(at+i, []byte(b[i:i+8])) }})
	}
	return l
}

// flushing is one operation for each line that has some of n bytes.
func flushing(at, n int) []op {
	var l []op
	for line := at / 64 * 64; line < at+n; line += 64 {
		l = append(l, op{fmt.Sprint("Flush ", line), func(d *pmem.Device) api.Errno { return d.Flush(line) }})
	}
	return l
}

func fence() op { return op{"Fence", (*pmem.Device).Fence} }

// publishing is the operations by which the number of records is told.
func (g ground) publishing(n int) []op {
	return append(append(storing(g.logAt, word(uint64(n))), flushing(g.logAt, 8)...), fence())
}

// committing is the operations of a Commit, and what it answers.
func (m *model) committing() ([]op, api.Errno) {
	var l, flushes []op
	for _, b := range numbers(m.fresh) {
		l = append(l, storing(m.place(b), m.fresh[b])...)
		flushes = append(flushes, flushing(m.place(b), 256)...)
	}
	l = append(l, flushes...)
	extents := m.extents()
	if len(extents) == 0 {
		if len(l) > 0 {
			l = append(l, fence())
		}
		return l, api.OK
	}
	log := records(m.image, extents)
	if len(log) > m.logSize-64 {
		return l, api.ErrFull
	}
	l = append(append(append(l, storing(m.logAt+64, log)...), flushing(m.logAt+64, len(log))...), fence())
	l = append(l, m.publishing(len(extents))...)
	image := m.changed()
	flushes = nil
	for _, x := range extents {
		l = append(l, storing(x.At, image[x.At:x.At+x.Len])...)
		flushes = append(flushes, flushing(x.At, x.Len)...)
	}
	l = append(append(l, flushes...), fence())
	return append(l, m.publishing(0)...), api.OK
}

// recovering is the operations of a Recover: the log of an image holds no record, or all that the Commit has written.
func (m *model) recovering(t *testing.T, name, image string) []op {
	t.Helper()
	extents := m.extents()
	switch image[m.logAt : m.logAt+8] {
	case word(0):
		return nil
	case word(uint64(len(extents))):
	default:
		t.Fatalf("%s: % x records", name, image[m.logAt:m.logAt+8])
	}
	if log := records(m.image, extents); image[m.logAt+64:m.logAt+64+len(log)] != log {
		t.Fatalf("%s: the records are % x, not % x", name, image[m.logAt+64:], log)
	}
	var l []op
	for _, x := range slices.Backward(extents) {
		l = append(append(l, storing(x.At, m.image[x.At:x.At+x.Len])...), flushing(x.At, x.Len)...)
	}
	return append(append(l, fence()), m.publishing(0)...)
}

// same holds all that two devices tell against each other: now, and, if they are on, behind a Fence, which tells what was flushed.
func same(t *testing.T, name string, d, want *pmem.Device) {
	t.Helper()
	told(t, name, d, want)
	if !want.Off() {
		a, b := d.Copy(), want.Copy()
		if e, f := a.Fence(), b.Fence(); e != f {
			t.Fatalf("%s, Fence = %d, not %d", name, e, f)
		}
		told(t, name+", Fence", a, b)
	}
}

func told(t *testing.T, name string, d, want *pmem.Device) {
	t.Helper()
	if d.Ops() != want.Ops() || d.Off() != want.Off() || d.Size() != want.Size() {
		t.Fatalf("%s: %d operations, off %v, %d bytes; not %d, %v, %d", name, d.Ops(), d.Off(), d.Size(), want.Ops(), want.Off(), want.Size())
	}
	for line := range want.Size() / 64 {
		l, m := d.Contents(line), want.Contents(line)
		if len(l) != len(m) {
			t.Fatalf("%s: line %d has %d contents, not %d", name, line, len(l), len(m))
		}
		for k := range m {
			if !bytes.Equal(l[k], m[k]) {
				t.Fatalf("%s: content %d of line %d is % x, not % x", name, k, line, l[k], m[k])
			}
		}
	}
}

// commits makes a Commit, holds what it did against its operations on a copy, and what is live and in the blocks behind it against the model; it answers what the Commit did.
func (m *model) commits(t *testing.T, name string, d *pmem.Device, h *blocks.Heap, w *blocks.Work) api.Errno {
	t.Helper()
	want := d.Copy()
	ops, code := m.committing()
	for _, o := range ops {
		well(t, o.do(want))
	}
	if e := w.Commit(); e != code {
		t.Fatalf("%s: Commit = %d, not %d", name, e, code)
	}
	same(t, name+": Commit", d, want)
	ended(t, name, w, m.n)
	next := numbers(m.live)
	if code == api.OK {
		next = m.inUse()
		image := string(d.Image())
		for _, b := range next {
			if m.block(image, b) != m.block(m.changed(), b) {
				t.Fatalf("%s: block %d is not as the work had it", name, b)
			}
		}
	}
	lives(t, name, h, m.n, next...)
	v := begun(t, h)
	modelOf(m.ground, string(d.Image()), next...).tells(t, name+", a new work", d, h, v)
	well(t, v.Drop())
	return code
}
