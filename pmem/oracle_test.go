package pmem_test

import (
	"fmt"
	"maps"
	"slices"
	"strings"
	"testing"

	"vellum/api"
	"vellum/pmem"
)

// device is what can be done to a device, and what it tells.
type device interface {
	Size() int
	Load(at, n int) ([]byte, api.Errno)
	Store8(at int, v uint64) api.Errno
	Store(at int, b []byte) api.Errno
	Flush(at int) api.Errno
	Fence() api.Errno
	Ops() int
	Arm(arms ...api.Arm) api.Errno
	Crash(keep ...int) api.Errno
	Off() bool
	Wake() api.Errno
	Contents(line int) [][]byte
	Image() []byte
}

// model is a device as the document's words tell it: of each line all contents, as texts; nothing is kept apart, nothing is spared.
type model struct {
	lines        [][]string
	flushed      map[int]int
	ops, counted int
	arms         []api.Arm
	off          bool
}

func modelOf(image string) *model {
	m := &model{flushed: map[int]int{}}
	for at := 0; at < len(image); at += 64 {
		m.lines = append(m.lines, []string{image[at : at+64]})
	}
	return m
}

func (m *model) copy() *model {
	other := *m
	other.lines = nil
	for _, l := range m.lines {
		other.lines = append(other.lines, slices.Clone(l))
	}
	other.flushed = maps.Clone(m.flushed)
	other.arms = slices.Clone(m.arms)
	return &other
}

func (m *model) image() string {
	var b strings.Builder
	for _, l := range m.lines {
		b.WriteString(l[len(l)-1])
	}
	return b.String()
}

func (m *model) Size() int { return 64 * len(m.lines) }

func (m *model) Ops() int { return m.ops }

func (m *model) Off() bool { return m.off }

func (m *model) Image() []byte { return []byte(m.image()) }

func (m *model) Contents(line int) [][]byte {
	var out [][]byte
	if line >= 0 && line < len(m.lines) {
		for _, c := range m.lines[line] {
			out = append(out, []byte(c))
		}
	}
	return out
}

// within says whether all n numbers from at on are below size; counted down, as a sum might pass the greatest int.
func within(at, n, size int) bool {
	return at >= 0 && n >= 0 && at <= size && n <= size && at <= size-n
}

func (m *model) Load(at, n int) ([]byte, api.Errno) {
	if m.off {
		return nil, api.ErrOff
	}
	if !within(at, n, m.Size()) {
		return nil, api.ErrRange
	}
	return []byte(m.image()[at : at+n]), api.OK
}

func (m *model) Store8(at int, v uint64) api.Errno {
	if m.off {
		return api.ErrOff
	}
	if !within(at, 8, m.Size()) || at%8 != 0 {
		return api.ErrRange
	}
	var b []byte
	for shift := 0; shift < 64; shift += 8 {
		b = append(b, byte(v>>shift))
	}
	return m.Store(at, b)
}

func (m *model) Store(at int, b []byte) api.Errno {
	if m.off {
		return api.ErrOff
	}
	if !within(at, len(b), m.Size()) {
		return api.ErrRange
	}
	for word := range m.Size() / 8 {
		line := word / 8
		l := m.lines[line]
		c := []byte(l[len(l)-1])
		touched := false
		for a := word * 8; a < word*8+8; a++ {
			if a >= at && a < at+len(b) {
				c[a%64] = b[a-at]
				touched = true
			}
		}
		if !touched {
			continue
		}
		m.lines[line] = append(l, string(c))
		if m.operated() == api.ErrOff {
			return api.ErrOff
		}
	}
	return api.OK
}

func (m *model) Flush(at int) api.Errno {
	if m.off {
		return api.ErrOff
	}
	if at < 0 || at >= m.Size() {
		return api.ErrRange
	}
	m.flushed[at/64] = len(m.lines[at/64]) - 1
	return m.operated()
}

func (m *model) Fence() api.Errno {
	if m.off {
		return api.ErrOff
	}
	for line, k := range m.flushed {
		m.lines[line] = m.lines[line][k:]
	}
	m.flushed = map[int]int{}
	return m.operated()
}

func (m *model) operated() api.Errno {
	m.ops++
	if len(m.arms) == 0 {
		return api.OK
	}
	m.counted++
	arm := m.arms[0]
	if m.counted != arm.After {
		return api.OK
	}
	m.arms, m.counted = m.arms[1:], 0
	m.goes(arm.Keep)
	return api.ErrOff
}

func (m *model) goes(keep []int) {
	for i, l := range m.lines {
		k := 0
		if i < len(keep) {
			k = keep[i]
		}
		m.lines[i] = []string{l[k%len(l)]}
	}
	m.flushed = map[int]int{}
	m.off = true
}

func (m *model) Arm(arms ...api.Arm) api.Errno {
	if m.off {
		return api.ErrOff
	}
	for _, a := range arms {
		if a.After < 1 || len(a.Keep) > 0 && slices.Min(a.Keep) < 0 {
			return api.ErrArg
		}
	}
	if len(m.arms)+len(arms) > 64 {
		return api.ErrLong
	}
	m.arms = append(m.arms[:len(m.arms):len(m.arms)], arms...)
	return api.OK
}

func (m *model) Crash(keep ...int) api.Errno {
	if m.off {
		return api.ErrOff
	}
	if len(keep) > 0 && slices.Min(keep) < 0 {
		return api.ErrArg
	}
	m.goes(keep)
	return api.OK
}

func (m *model) Wake() api.Errno {
	if !m.off {
		return api.ErrState
	}
	m.off = false
	return api.OK
}

// call is one that is made to a device, and how it is told.
type call struct {
	name string
	do   func(device) api.Errno
}

func load(at, n int) call {
	return call{fmt.Sprintf("Load(%d, %d)", at, n), func(d device) api.Errno {
		_, e := d.Load(at, n)
		return e
	}}
}

func store8(at int, v uint64) call {
	return call{fmt.Sprintf("Store8(%d, %x)", at, v), func(d device) api.Errno { return d.Store8(at, v) }}
}

func store(at int, b string) call {
	return call{fmt.Sprintf("Store(%d, % x)", at, b), func(d device) api.Errno { return d.Store(at, []byte(b)) }}
}

func flush(at int) call {
	return call{fmt.Sprintf("Flush(%d)", at), func(d device) api.Errno { return d.Flush(at) }}
}

func fence() call {
	return call{"Fence()", device.Fence}
}

func arm(arms ...api.Arm) call {
	return call{fmt.Sprintf("Arm%v", arms), func(d device) api.Errno { return d.Arm(arms...) }}
}

func crash(keep ...int) call {
	return call{fmt.Sprintf("Crash%v", keep), func(d device) api.Errno { return d.Crash(keep...) }}
}

func wake() call {
	return call{"Wake()", device.Wake}
}

// names is how calls are told.
func names(calls []call) string {
	var l []string
	for _, c := range calls {
		l = append(l, c.name)
	}
	return strings.Join(l, ", ")
}

// sameAs holds all that a device tells against what the model tells.
func sameAs(t *testing.T, d *pmem.Device, m *model, made []call) {
	t.Helper()
	if d.Size() != m.Size() || d.Ops() != m.ops || d.Off() != m.off || string(d.Image()) != m.image() {
		t.Fatalf("%s: %d bytes, %d operations, off %v, % x; the model %d, %d, %v, % x", names(made), d.Size(), d.Ops(), d.Off(), d.Image(), m.Size(), m.ops, m.off, m.image())
	}
	if b, e := d.Load(0, d.Size()); m.off && (len(b) > 0 || e != api.ErrOff) || !m.off && (string(b) != m.image() || e != api.OK) {
		t.Fatalf("%s: Load of all: % x, %d", names(made), b, e)
	}
	for line := -1; line <= len(m.lines); line++ {
		if got, want := d.Contents(line), m.Contents(line); !slices.EqualFunc(got, want, slices.Equal) {
			t.Fatalf("%s: Contents(%d) = % x; the model % x", names(made), line, got, want)
		}
	}
}

// bothDo makes a call to both, and holds the answers against each other.
func bothDo(t *testing.T, d *pmem.Device, m *model, c call, made []call) {
	t.Helper()
	if got, want := c.do(d), c.do(m); got != want {
		t.Fatalf("%s: the last one answers %d, the model %d", names(made), got, want)
	}
}

// sizes, bytes and words that the tests share.
const ones, twos, threes = 0x0101010101010101, 0x0202020202020202, 0x0303030303030303

// made is a new device.
func made(t *testing.T, size int) *pmem.Device {
	t.Helper()
	d, e := pmem.New(size)
	if e != api.OK || d == nil {
		t.Fatalf("New(%d): %d", size, e)
	}
	return d
}

// from is a device of these bytes.
func from(t *testing.T, image string) *pmem.Device {
	t.Helper()
	d, e := pmem.From([]byte(image))
	if e != api.OK || d == nil {
		t.Fatalf("From %d bytes: %d", len(image), e)
	}
	return d
}

// rising is bytes of which no two next to one another are the same, nor two that are a line or a word apart.
func rising(n int) string {
	b := make([]byte, n)
	for i := range b {
		b[i] = byte(i + i/64*3 + 1)
	}
	return string(b)
}

// all makes the calls one after the other, each of which must answer OK.
func all(t *testing.T, d *pmem.Device, calls ...call) {
	t.Helper()
	for i, c := range calls {
		if e := c.do(d); e != api.OK {
			t.Fatalf("%s: the last one answers %d", names(calls[:i+1]), e)
		}
	}
}
