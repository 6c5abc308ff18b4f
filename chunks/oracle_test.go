package chunks_test

import (
	"bytes"
	"encoding/binary"
	"fmt"
	"math"
	"math/rand/v2"
	"slices"
	"strings"
	"testing"
	"unicode/utf8"

	"vellum/api"
	"vellum/blocks"
	"vellum/chunks"
	"vellum/lines"
	"vellum/pmem"
	"vellum/table"
	"vellum/tally"
	"vellum/txn"
	"vellum/ulog"
	"vellum/utf"
)

// The tests' heaps begin behind a log that has room for some thirty blocks.
const (
	heapAt  = 8320
	logSize = heapAt - 128
)

// well does calls that must go well.
func well(t *testing.T, codes ...api.Errno) {
	t.Helper()
	for i, e := range codes {
		if e != api.OK {
			t.Fatalf("call %d = %d", i, e)
		}
	}
}

// second is the error of a call that answers something else, too.
func second[T any](_ T, e api.Errno) api.Errno { return e }

// upTo is the numbers from 0 to n - 1.
func upTo(n int) []int {
	var l []int
	for b := range n {
		l = append(l, b)
	}
	return l
}

// odd is numbers at the ends of ints, and others that no short text has as a place.
func odd() []int {
	return []int{math.MinInt, math.MinInt + 1, math.MinInt + 252, -1 << 32, -1 << 16, -253, -252, -2, -1, 1 << 20, 1<<20 + 1, 1 << 32, 1<<32 + 1, math.MaxInt/2 + 1, math.MaxInt - 252, math.MaxInt - 1, math.MaxInt}
}

// far is references to blocks that no heap has.
func far() []uint32 {
	return []uint32{16385, 1 << 16, 1<<16 + 1, 1 << 24, 1<<31 - 1, 1 << 31, 1<<31 + 1, 1<<32 - 2, 1<<32 - 1}
}

// prose is n bytes in which characters of each width, wrong bytes and line ends of each kind stand close to one another; those of another kind are others.
func prose(n, kind int) string {
	words := []string{"ab", "\u00e9", "\r\n", "\u20ac", "c\n", "\U0001F600", "\xe2\x82", "\u0085", "\r", "\u2028", "xyz\xff", "\u2029", "\xf0\x9f", "d\xc3", "e"}
	var b strings.Builder
	for i := kind; b.Len() < n; i += 1 + i%3 {
		b.WriteString(words[i%len(words)])
	}
	return b.String()[:n]
}

// rising is n bytes of which none is 0, and none is like the next one, nor like the one that is 252 or 256 bytes on.
func rising(n int) string {
	b := make([]byte, n)
	for i := range b {
		b[i] = byte(i%251 + 1)
	}
	return string(b)
}

// device is one on which n blocks lie, all bytes of theirs rising: nothing that stands in free blocks is 0, or a gap block, or a table's.
func device(t *testing.T, n int) *pmem.Device {
	t.Helper()
	size := (heapAt + 256*n + 63) / 64 * 64
	d, e := pmem.From([]byte(strings.Repeat("\x00", heapAt) + rising(size-heapAt)))
	well(t, e)
	return d
}

// heap is a new one of a device, of a new pool and a new log, with live blocks.
func heap(t *testing.T, d *pmem.Device, live ...int) *blocks.Heap {
	t.Helper()
	l, e := ulog.Open(d, 128, logSize)
	well(t, e)
	p, e := txn.New(d, l)
	well(t, e)
	h, e := blocks.New(p, heapAt, (d.Size()-heapAt)/256)
	well(t, e, h.Load(live))
	return h
}

func begun(t *testing.T, h *blocks.Heap) *blocks.Work {
	t.Helper()
	w, e := h.Begin()
	if w == nil || e != api.OK {
		t.Fatalf("Begin = %v, %d", w, e)
	}
	return w
}

// work is one of a new heap of n blocks.
func work(t *testing.T, n int, live ...int) *blocks.Work {
	t.Helper()
	return begun(t, heap(t, device(t, n), live...))
}

// row is a part of a plan, or a chunk: its text, the place of its gap, and a block, or -1.
type row struct {
	block int
	text  string
	at    int
}

// data is the 256 bytes of its gap block.
func (r row) data() []byte {
	room := 252 - len(r.text)
	b := binary.LittleEndian.AppendUint16(nil, uint16(r.at))
	b = binary.LittleEndian.AppendUint16(b, uint16(r.at+room))
	return append(b, r.text[:r.at]+strings.Repeat("\x00", room)+r.text[r.at:]...)
}

// cell is the 16 bytes that a table has of it.
func (r row) cell() []byte {
	b := binary.LittleEndian.AppendUint32(nil, uint32(r.block+1))
	for _, n := range []int{len(r.text), utf8.RuneCountInString(r.text), lines.Count(r.text) - 1} {
		b = binary.LittleEndian.AppendUint16(b, uint16(n))
	}
	b = append(b, (r.text + "\x00\x00\x00")[:3]...)
	return append(b, (r.text[max(0, len(r.text)-3):] + "\x00\x00\x00")[:3]...)
}

// rowOf is what the bytes of a block are as a chunk.
func rowOf(block int, data []byte) (row, bool) {
	if len(data) != 256 {
		return row{}, false
	}
	from, to := int(binary.LittleEndian.Uint16(data)), int(binary.LittleEndian.Uint16(data[2:]))
	if from > to || to > 252 || to-from == 252 || strings.Trim(string(data[4+from:4+to]), "\x00") != "" {
		return row{}, false
	}
	return row{block, string(data[4:4+from]) + string(data[4+to:]), from}, true
}

// whole is the text of parts.
func whole(plan []row) string {
	var b strings.Builder
	for _, r := range plan {
		b.WriteString(r.text)
	}
	return b.String()
}

// sizesOf is how many bytes parts have.
func sizesOf(plan []row) []int {
	var l []int
	for _, r := range plan {
		l = append(l, len(r.text))
	}
	return l
}

// blocksOf is the blocks of parts, in order.
func blocksOf(plan []row) []int {
	var l []int
	for _, r := range plan {
		l = append(l, r.block)
	}
	return l
}

// cellsOf is the cells of parts, in order.
func cellsOf(plan []row) [][]byte {
	var l [][]byte
	for _, r := range plan {
		l = append(l, r.cell())
	}
	return l
}

// read is what the chapter's words say of a reference: its chunks, and the table's blocks; false, if it is no text's.
func read(t *testing.T, w *blocks.Work, ref uint32) ([]row, []int, bool) {
	t.Helper()
	cells, e := table.Cells(w, ref, 16)
	if e != api.OK {
		return nil, nil, false
	}
	numbers, e := table.Blocks(w, ref, 16)
	well(t, e)
	var plan []row
	for _, c := range cells {
		b := int(int64(binary.LittleEndian.Uint32(c)) - 1)
		data, _ := w.Read(b)
		r, is := rowOf(b, data)
		if !is || !bytes.Equal(r.cell(), c) {
			return nil, nil, false
		}
		plan = append(plan, r)
	}
	all := slices.Concat(blocksOf(plan), numbers)
	slices.Sort(all)
	if len(slices.Compact(slices.Clone(all))) != len(all) || len(whole(plan)) > 1<<20 {
		return nil, nil, false
	}
	for k := 1; k < len(plan); k++ {
		if len(plan[k-1].text)+len(plan[k].text) <= 252 {
			return nil, nil, false
		}
	}
	return plan, numbers, true
}

// begins is where the lines of a text begin.
func begins(s string) []int {
	var l []int
	at := 0
	for piece, width := range lines.All(s) {
		l = append(l, at)
		at = piece.To + width
	}
	return l
}

// asked is places to ask a text for: those at its ends, at the seams of parts and close to them, some between, and wrong ones.
func asked(plan []row) []int {
	l := []int{-1, math.MinInt, math.MaxInt}
	at := 0
	for _, r := range plan {
		for _, d := range []int{-3, -2, -1, 0, 1, 2, 3, len(r.text) / 2} {
			l = append(l, at+d)
		}
		at += len(r.text)
	}
	for d := -4; d < 3; d++ {
		l = append(l, at+d)
	}
	slices.Sort(l)
	return slices.Compact(l)
}

// tells holds what Tally, Sizes, Blocks, Read, At, Of and Line answer of a reference against the chapter's words; it is whether that is a text's.
func tells(t *testing.T, name string, w *blocks.Work, ref uint32) bool {
	t.Helper()
	plan, numbers, is := read(t, w, ref)
	if !is {
		refuses(t, name, api.ErrChunks, func() *blocks.Work { return w }, ref)
		return false
	}
	s := whole(plan)
	if got, e := chunks.Sizes(w, ref); !slices.Equal(got, sizesOf(plan)) || e != api.OK {
		t.Fatalf("%s: Sizes(%d) = %v, %d; not %v", name, ref, got, e, sizesOf(plan))
	}
	all := slices.Concat(blocksOf(plan), numbers)
	if got, e := chunks.Blocks(w, ref); !slices.Equal(got, all) || e != api.OK {
		t.Fatalf("%s: Blocks(%d) = %v, %d; not %v", name, ref, got, e, all)
	}
	tellsText(t, name, w, ref, s, asked(plan))
	return true
}

// tellsText holds what Tally, Read, At, Of and Line answer of a reference, asked for these places, against a string.
func tellsText(t *testing.T, name string, w *blocks.Work, ref uint32, s string, places []int) {
	t.Helper()
	if got, e := chunks.Tally(w, ref); got != tally.Of(s) || e != api.OK {
		t.Fatalf("%s: Tally(%d) = %v, %d; not %v", name, ref, got, e, tally.Of(s))
	}
	if got, e := chunks.Read(w, ref, 0, len(s)); got != s || e != api.OK {
		t.Fatalf("%s: Read(%d) of all = %.99q, %d; not %.99q", name, ref, got, e, s)
	}
	chars, begin := utf8.RuneCountInString(s), begins(s)
	for i, at := range places {
		readsLikeIt(t, name, w, ref, s, at, places[(7*i+3)%len(places)])
		tellsOf(t, name, w, ref, s, at)
		tellsAt(t, name, w, ref, s, at)
		if 0 <= at && at <= len(s) {
			char, _ := utf.Of(s, at)
			tellsAt(t, name, w, ref, s, char)
			tellsLine(t, name, w, ref, begin, lines.Count(s[:at])-1)
		}
	}
	for _, d := range []int{-1, 0, 1} {
		tellsAt(t, name, w, ref, s, chars+d)
		tellsLine(t, name, w, ref, begin, len(begin)-1+d)
		tellsLine(t, name, w, ref, begin, d)
	}
}

func readsLikeIt(t *testing.T, name string, w *blocks.Work, ref uint32, s string, from, to int) {
	t.Helper()
	want, code := "", api.ErrRange
	if 0 <= from && from <= to && to <= len(s) {
		want, code = s[from:to], api.OK
	}
	if got, e := chunks.Read(w, ref, from, to); got != want || e != code {
		t.Fatalf("%s: Read(%d, %d, %d) = %.99q, %d; not %.99q, %d", name, ref, from, to, got, e, want, code)
	}
}

func tellsAt(t *testing.T, name string, w *blocks.Work, ref uint32, s string, char int) {
	t.Helper()
	want, code := utf.At(s, char)
	if got, e := chunks.At(w, ref, char); got != want || e != code {
		t.Fatalf("%s: At(%d, %d) = %d, %d; not %d, %d", name, ref, char, got, e, want, code)
	}
}

func tellsOf(t *testing.T, name string, w *blocks.Work, ref uint32, s string, at int) {
	t.Helper()
	want, code := utf.Of(s, at)
	if got, e := chunks.Of(w, ref, at); got != want || e != code {
		t.Fatalf("%s: Of(%d, %d) = %d, %d; not %d, %d", name, ref, at, got, e, want, code)
	}
}

func tellsLine(t *testing.T, name string, w *blocks.Work, ref uint32, begin []int, n int) {
	t.Helper()
	want, code := 0, api.ErrRange
	if 0 <= n && n < len(begin) {
		want, code = begin[n], api.OK
	}
	if got, e := chunks.Line(w, ref, n); got != want || e != code {
		t.Fatalf("%s: Line(%d, %d) = %d, %d; not %d, %d", name, ref, n, got, e, want, code)
	}
}

// refuses holds what all calls answer of a work and a reference against an error, whatever else is wrong; anew is asked for each call.
func refuses(t *testing.T, name string, want api.Errno, anew func() *blocks.Work, ref uint32) {
	t.Helper()
	name = fmt.Sprint(name, ", reference ", ref)
	is := func(call string, zero bool, e api.Errno) {
		t.Helper()
		if !zero || e != want {
			t.Fatalf("%s: %s = %d, not %d, or beside it something (%v)", name, call, e, want, !zero)
		}
	}
	sum, e := chunks.Tally(anew(), ref)
	is("Tally", sum == api.Tally{}, e)
	l, e := chunks.Sizes(anew(), ref)
	is("Sizes", len(l) == 0, e)
	l, e = chunks.Blocks(anew(), ref)
	is("Blocks", len(l) == 0, e)
	is("Drop", true, chunks.Drop(anew(), ref))
	for _, at := range []int{-1, 0, 1, math.MaxInt} {
		s, e := chunks.Read(anew(), ref, at, at)
		is("Read", s == "", e)
		for call, f := range map[string]func(w *blocks.Work, ref uint32, at int) (int, api.Errno){"At": chunks.At, "Of": chunks.Of, "Line": chunks.Line} {
			n, e := f(anew(), ref, at)
			is(call, n == 0, e)
		}
		for _, s := range []string{"", "x", rising(600)} {
			next, e := chunks.Insert(anew(), ref, at, s)
			is("Insert", next == 0, e)
		}
		for _, to := range []int{0, 1} {
			next, e := chunks.Delete(anew(), ref, at, to)
			is("Delete", next == 0, e)
		}
	}
}

// settled is a plan that was settled, told as the words do.
func settled(plan []row) []row {
	for {
		at := slices.IndexFunc(upTo(max(len(plan)-1, 0)), func(k int) bool {
			return len(plan[k].text)+len(plan[k+1].text) <= 252
		})
		if at < 0 {
			return plan
		}
		one := row{plan[at].block, plan[at].text + plan[at+1].text, 0}
		one.at = len(one.text)
		if one.block < 0 {
			one.block = plan[at+1].block
		}
		plan = slices.Concat(plan[:at], []row{one}, plan[at+2:])
	}
}

// inserted is the plan of a text into which s comes, settled.
func inserted(plan []row, at int, s string) []row {
	if len(plan) == 0 {
		plan = []row{{block: -1}}
	}
	end := 0
	for k, r := range plan {
		end += len(r.text)
		if end < at {
			continue
		}
		i := at - end + len(r.text)
		text := r.text[:i] + s + r.text[i:]
		if len(text) <= 252 {
			return settled(slices.Concat(plan[:k], []row{{r.block, text, i + len(s)}}, plan[k+1:]))
		}
		// As many of the greater ones as bytes are left when each has the lesser number.
		n := len(text)
		parts := n / 252
		if n%252 > 0 {
			parts++
		}
		var cut []row
		for j := range parts {
			size := n / parts
			if j < n%parts {
				size++
			}
			cut = append(cut, row{-1, text[:size], size})
			text = text[size:]
		}
		cut[0].block = r.block
		return settled(slices.Concat(plan[:k], cut, plan[k+1:]))
	}
	panic("a place behind the text")
}

// deleted is the plan of a text out of which bytes go, settled.
func deleted(plan []row, from, to int) []row {
	var out []row
	at := 0
	for _, r := range plan {
		left := row{block: r.block, at: r.at}
		first := -1
		for i := range len(r.text) {
			if from <= at && at < to {
				if first < 0 {
					first = i
				}
			} else {
				left.text += r.text[i : i+1]
			}
			at++
		}
		if first >= 0 {
			left.at = first
		}
		if left.text != "" {
			out = append(out, left)
		}
	}
	return settled(out)
}

// byHand lets a text be as a plan says, in the order of the words.
func byHand(w *blocks.Work, ref uint32, was, plan []row) (uint32, api.Errno) {
	plan = slices.Clone(plan)
	var taken []int
	for k := range plan {
		if plan[k].block >= 0 {
			continue
		}
		b, e := w.Take()
		if e != api.OK {
			return 0, e
		}
		plan[k].block = b
		taken = append(taken, b)
	}
	for _, r := range was {
		if !slices.Contains(blocksOf(plan), r.block) {
			if e := w.Give(r.block); e != api.OK {
				return 0, e
			}
		}
	}
	for _, r := range plan {
		data, e := w.Read(r.block)
		if e == api.OK && (slices.Contains(taken, r.block) || !bytes.Equal(data, r.data())) {
			e = w.Write(r.block, r.data())
		}
		if e != api.OK {
			return 0, e
		}
	}
	return listed(w, ref, cellsOf(was), cellsOf(plan))
}

// listed lets a table have other cells, as the words say.
func listed(w *blocks.Work, ref uint32, was, now [][]byte) (uint32, api.Errno) {
	p := 0
	for len(was) > 0 && len(now) > 0 && bytes.Equal(was[0], now[0]) {
		p, was, now = p+1, was[1:], now[1:]
	}
	for len(was) > 0 && len(now) > 0 && bytes.Equal(was[len(was)-1], now[len(now)-1]) {
		was, now = was[:len(was)-1], now[:len(now)-1]
	}
	m, n := len(was), len(now)
	for i := range min(m, n) {
		if !bytes.Equal(was[i], now[i]) {
			if e := table.Put(w, ref, 16, p+i, now[i]); e != api.OK {
				return 0, e
			}
		}
	}
	if m > n {
		return table.Delete(w, ref, 16, p+n, m-n)
	}
	if n > m {
		return table.Insert(w, ref, 16, p+m, now[m:]...)
	}
	return ref, api.OK
}

// state is all that a work tells.
type state struct {
	taken, given []int
	root         uint64
	blocks       []string // of those that are in use; the others have no bytes
}

func stateOf(t *testing.T, w *blocks.Work) state {
	t.Helper()
	v, e := w.Root()
	well(t, e)
	s := state{taken: w.Taken(), given: w.Given(), root: v, blocks: make([]string, w.Blocks())}
	for b := range s.blocks {
		data, e := w.Read(b)
		if e != api.OK && e != api.ErrBlock {
			t.Fatalf("Read(%d) = %d", b, e)
		}
		s.blocks[b] = string(data)
	}
	return s
}

// is holds all that a work tells against what it should.
func (s state) is(t *testing.T, name string, w *blocks.Work) {
	t.Helper()
	now := stateOf(t, w)
	if !slices.Equal(now.taken, s.taken) || !slices.Equal(now.given, s.given) || now.root != s.root {
		t.Fatalf("%s: taken %v, given %v, the root %d; not %v, %v, %d", name, now.taken, now.given, now.root, s.taken, s.given, s.root)
	}
	for b, data := range s.blocks {
		if now.blocks[b] != data {
			t.Fatalf("%s: block %d is % x, not % x", name, b, now.blocks[b], data)
		}
	}
}

// twins is two works on two devices to which the same is done: to the one by chunks, to the other one by hand.
type twins struct {
	w, hand *blocks.Work
}

// inserts inserts into both, and holds the answers and what is told behind it against each other; it answers the reference, and the error.
func (p twins) inserts(t *testing.T, name string, ref uint32, at int, s string) (uint32, api.Errno) {
	t.Helper()
	name = fmt.Sprint(name, ", Insert of ", len(s), " at ", at)
	plan, _, is := read(t, p.hand, ref)
	want, code := ref, api.OK
	switch n := len(whole(plan)); {
	case !is:
		want, code = 0, api.ErrChunks
	case at < 0 || at > n:
		want, code = 0, api.ErrRange
	case n+len(s) > 1<<20:
		want, code = 0, api.ErrLong
	case s != "":
		want, code = byHand(p.hand, ref, plan, inserted(plan, at, s))
	}
	got, e := chunks.Insert(p.w, ref, at, s)
	if got != want || e != code {
		t.Fatalf("%s = %d, %d; not %d, %d", name, got, e, want, code)
	}
	stateOf(t, p.hand).is(t, name, p.w)
	if e == api.OK {
		p.holds(t, name, got, whole(plan)[:at]+s+whole(plan)[at:])
	}
	return got, e
}

// deletes deletes from both, likewise.
func (p twins) deletes(t *testing.T, name string, ref uint32, from, to int) (uint32, api.Errno) {
	t.Helper()
	name = fmt.Sprint(name, ", Delete from ", from, " to ", to)
	plan, _, is := read(t, p.hand, ref)
	want, code := ref, api.OK
	switch n := len(whole(plan)); {
	case !is:
		want, code = 0, api.ErrChunks
	case from < 0 || from > to || to > n:
		want, code = 0, api.ErrRange
	case from < to:
		want, code = byHand(p.hand, ref, plan, deleted(plan, from, to))
	}
	got, e := chunks.Delete(p.w, ref, from, to)
	if got != want || e != code {
		t.Fatalf("%s = %d, %d; not %d, %d", name, got, e, want, code)
	}
	stateOf(t, p.hand).is(t, name, p.w)
	if e == api.OK {
		p.holds(t, name, got, whole(plan)[:from]+whole(plan)[to:])
	}
	return got, e
}

// drops drops from both, likewise.
func (p twins) drops(t *testing.T, name string, ref uint32) api.Errno {
	t.Helper()
	plan, _, is := read(t, p.hand, ref)
	want := api.ErrChunks
	if is {
		for _, r := range plan {
			well(t, p.hand.Give(r.block))
		}
		want = table.Drop(p.hand, ref, 16)
	}
	if e := chunks.Drop(p.w, ref); e != want {
		t.Fatalf("%s: Drop(%d) = %d, not %d", name, ref, e, want)
	}
	stateOf(t, p.hand).is(t, name+", Drop", p.w)
	return want
}

// holds holds that a reference is a text's, the one of a string, in no more chunks than may be.
func (p twins) holds(t *testing.T, name string, ref uint32, s string) {
	t.Helper()
	plan, _, is := read(t, p.w, ref)
	if !is || whole(plan) != s {
		t.Fatalf("%s: no text, or another one than a string's", name)
	}
	if len(plan) > 2*len(s)/253+min(len(s), 1) {
		t.Fatalf("%s: %d bytes in %d chunks", name, len(s), len(plan))
	}
}

// scene is what the tests lay down ahead of calls: a text in chunks of some sizes, in a heap with some blocks that are free.
type scene struct {
	text  string
	sizes []int
	free  int
	table []int // how many cells the table's blocks have; none: as many as fit
	later bool  // all of it was committed
}

// tables is how many cells the table's blocks have.
func (s scene) tables() []int {
	if len(s.table) > 0 {
		return s.table
	}
	var l []int
	for n := len(s.sizes); n > 0; n -= 15 {
		l = append(l, min(n, 15))
	}
	return l
}

// lay lays the scene on a new device: its blocks in any order, every third one taken, the others live, and one more live one. It answers the heap, the work and the text's reference.
func (s scene) lay(t *testing.T) (*pmem.Device, *blocks.Heap, *blocks.Work, uint32) {
	t.Helper()
	counts := s.tables()
	k := len(s.sizes) + len(counts)
	order := rand.New(rand.NewPCG(uint64(len(s.text)), uint64(k))).Perm(k + 1 + s.free)
	live := []int{order[k]}
	for i, b := range order[:k] {
		if i%3 > 0 {
			live = append(live, b)
		}
	}
	d := device(t, len(order))
	h := heap(t, d, live...)
	w := begun(t, h)
	for second(w.Take()) == api.OK {
	}
	var plan []row
	text := s.text
	for i, n := range s.sizes {
		// The gap stands anywhere.
		plan = append(plan, row{order[i], text[:n], (n * (i + 1) / 3) % (n + 1)})
		well(t, w.Write(order[i], plan[i].data()))
		text = text[n:]
	}
	ref := layTable(t, w, order[len(s.sizes):k], counts, cellsOf(plan))
	for _, b := range order[k+1:] {
		well(t, w.Give(b))
	}
	if s.later {
		well(t, w.Commit())
		w = begun(t, h)
	}
	return d, h, w, ref
}

// layTable writes a table's blocks by hand, with so many cells each; it is its reference.
func layTable(t *testing.T, w *blocks.Work, numbers, counts []int, cells [][]byte) uint32 {
	t.Helper()
	for i, b := range numbers {
		next := uint32(0)
		if i+1 < len(numbers) {
			next = uint32(numbers[i+1] + 1)
		}
		data := binary.LittleEndian.AppendUint32(nil, next)
		data = binary.LittleEndian.AppendUint16(data, uint16(counts[i]))
		data = binary.LittleEndian.AppendUint16(data, 16)
		data = append(data, bytes.Join(cells[:counts[i]], nil)...)
		well(t, w.Write(b, append(data, make([]byte, 256-len(data))...)))
		cells = cells[counts[i]:]
	}
	if len(numbers) == 0 {
		return 0
	}
	return uint32(numbers[0] + 1)
}

// twins lays the scene twice.
func (s scene) twins(t *testing.T) (twins, uint32) {
	t.Helper()
	_, _, w, ref := s.lay(t)
	_, _, hand, _ := s.lay(t)
	return twins{w, hand}, ref
}

// sum is numbers together.
func sum(l []int) int {
	n := 0
	for _, c := range l {
		n += c
	}
	return n
}

// scenes is a scene for each row of at most n sizes out of some that chunks can have, with prose.
func scenes(n int, choice []int, free int) []scene {
	all := [][]int{nil}
	for from := 0; from < len(all); from++ {
		l := all[from]
		if len(l) == n {
			continue
		}
		for _, c := range choice {
			if len(l) == 0 || l[len(l)-1]+c > 252 {
				all = append(all, append(slices.Clone(l), c))
			}
		}
	}
	var out []scene
	for i, l := range all {
		out = append(out, scene{text: prose(sum(l), i), sizes: l, free: free})
	}
	return out
}

// edges is places of the scene's text: its ends, the seams, those next to them, some between.
func (s scene) edges() []int {
	var l []int
	at := 0
	for _, n := range s.sizes {
		for _, d := range []int{0, 1, n / 2, n - 1, n} {
			l = append(l, at+d)
		}
		at += n
	}
	l = append(l, at)
	slices.Sort(l)
	return slices.Compact(l)
}

// untouched holds that nothing was done to a device.
func untouched(t *testing.T, name string, d, was *pmem.Device) {
	t.Helper()
	if d.Ops() != was.Ops() || !bytes.Equal(d.Image(), was.Image()) {
		t.Fatalf("%s: %d operations", name, d.Ops()-was.Ops())
	}
}
