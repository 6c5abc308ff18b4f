package gap_test

import (
	"bytes"
	"encoding/binary"
	"slices"
	"testing"

	"vellum/api"
	"vellum/gap"
)

// refused holds Open of what is no gap block.
func refused(t *testing.T, b []byte, name ...any) {
	t.Helper()
	was := slices.Clone(b)
	if g, e := gap.Open(b); g != nil || e != api.ErrGap {
		t.Fatalf("%v: Open = %v, %d", name, g, e)
	}
	if !bytes.Equal(b, was) {
		t.Fatalf("%v: Open changed what it was handed", name)
	}
}

// taken holds Open of a gap block: bytes that it takes are the Block again.
func taken(t *testing.T, b []byte, m model, name ...any) {
	t.Helper()
	was := slices.Clone(b)
	g, e := gap.Open(b)
	if g == nil || e != api.OK {
		t.Fatalf("%v: Open = %d", name, e)
	}
	if !bytes.Equal(b, was) {
		t.Fatalf("%v: Open changed what it was handed", name)
	}
	if !bytes.Equal(g.Block(), was) {
		t.Fatalf("%v: Block is % x, not % x", name, g.Block(), was)
	}
	m.is(t, g, name...)
}

// P16.1, P16.2, P16.3: the rows of the examples.
func TestExamples(t *testing.T) {
	g, e := gap.Make("abc")
	if e != api.OK || g.Len() != 3 || g.Room() != 249 || g.At() != 3 || g.Text() != "abc" {
		t.Fatalf("Make = %d", e)
	}
	if b := g.Block(); string(b) != "\x03\x00\xfc\x00abc"+zeros(249) {
		t.Errorf("Block = % x", b)
	}
	if e := g.Insert(1, "xy"); e != api.OK || g.Text() != "axybc" || g.At() != 3 {
		t.Errorf("Insert = %d: %q, %d", e, g.Text(), g.At())
	}
	for _, c := range []struct {
		at   int
		code api.Errno
	}{{5, api.OK}, {6, api.ErrRange}, {-1, api.ErrRange}} {
		if e := g.Move(c.at); e != c.code || g.At() != 5 {
			t.Errorf("Move(%d) = %d, the gap at %d", c.at, e, g.At())
		}
	}
	if e := g.Delete(0, 2); e != api.OK || g.Text() != "ybc" || g.At() != 0 {
		t.Errorf("Delete = %d: %q, %d", e, g.Text(), g.At())
	}
	if e := g.Delete(2, 1); e != api.ErrRange || g.Text() != "ybc" || g.At() != 0 {
		t.Errorf("Delete(2, 1) = %d: %q, %d", e, g.Text(), g.At())
	}
	full, e := gap.Make(rising(252))
	if e != api.OK || full.Room() != 0 {
		t.Fatalf("Make of 252 bytes = %d", e)
	}
	if e := full.Insert(0, "a"); e != api.ErrRoom || full.At() != 252 {
		t.Errorf("Insert without room = %d, the gap at %d", e, full.At())
	}
	if e := full.Insert(9, ""); e != api.OK || full.At() != 9 || full.Text() != rising(252) {
		t.Errorf("Insert of nothing = %d, the gap at %d", e, full.At())
	}
	if g, e := gap.Make(rising(253)); g != nil || e != api.ErrRoom {
		t.Errorf("Make of 253 bytes = %v, %d", g, e)
	}
	refused(t, make([]byte, 255), "255 bytes")
	taken(t, make([]byte, 256), model{zeros(252), 0}, "256 bytes 0")
	refused(t, []byte("\x05\x00\x04\x00"+zeros(252)), "from 5, to 4")
	refused(t, []byte("\x03\x00\x09\x00"+rising(4)+zeros(248)), "a byte in the gap")
}

// P16.1, P16.2: texts of all lengths that go into a block, and of some that do not.
func TestMake(t *testing.T) {
	for n := range 253 {
		for _, s := range []string{rising(n), sparse(n), zeros(n)} {
			g, e := gap.Make(s)
			if g == nil || e != api.OK {
				t.Fatalf("Make of %d bytes = %d", n, e)
			}
			model{s, n}.holds(t, g, "Make", n)
		}
	}
	for _, n := range []int{253, 254, 255, 256, 257, 504, 505, 1<<16 - 1, 1 << 16, 1<<16 + 1, 1<<16 + 252, 1 << 20} {
		for _, s := range []string{rising(n), zeros(n)} {
			if g, e := gap.Make(s); g != nil || e != api.ErrRoom {
				t.Errorf("Make of %d bytes = %v, %d", n, g, e)
			}
		}
	}
}

// P16.1, P16.4: of each length and each place there is one gap block, and it is taken for that one.
func TestOpenOfEachPlace(t *testing.T) {
	for n := range 253 {
		for at := range n + 1 {
			for _, s := range []string{rising(n), sparse(n)} {
				m := model{s, at}
				taken(t, m.block(), m, m)
			}
		}
	}
}

// P16.1: from and to of each kind, with bytes 0 as the data: no others are taken but those that the words say.
func TestOpenOfEachHead(t *testing.T) {
	numbers := append(upTo(260), 384, 507, 508, 509, 511, 512, 1<<15-1, 1<<15, 1<<15+252, 0xfc00, 0xfcfc, 1<<16-2, 1<<16-1)
	for _, from := range numbers {
		for _, to := range numbers {
			var head []byte
			head = binary.LittleEndian.AppendUint16(head, uint16(from))
			head = binary.LittleEndian.AppendUint16(head, uint16(to))
			b := append(head, zeros(252)...)
			if from <= to && to <= 252 {
				taken(t, b, model{zeros(252 - (to - from)), from}, "from, to", from, to)
			} else {
				refused(t, b, "from, to", from, to)
			}
		}
	}
}

// P16.1: one byte in the gap that is not 0, at each place of it; beside the gap any byte may stand.
func TestOpenWithAByteInTheGap(t *testing.T) {
	for _, m := range models() {
		from, to := m.at, m.at+252-len(m.text)
		for i := range 252 {
			for _, by := range []byte{1, 0x80, 0xff} {
				b := m.block()
				b[4+i] ^= by
				switch {
				case from <= i && i < to:
					refused(t, b, m, "byte turned", i, by)
				case i < from:
					taken(t, b, model{string(b[4:4+from]) + m.text[m.at:], m.at}, m, "byte turned", i, by)
				default:
					taken(t, b, model{m.text[:m.at] + string(b[4+to:]), m.at}, m, "byte turned", i, by)
				}
			}
		}
	}
}

// P16.1: all bytes of the gap but one are bytes 0, whichever value the one has.
func TestOpenWithEachByteInTheGap(t *testing.T) {
	m := model{rising(251), 100}
	for x := 1; x < 256; x++ {
		b := m.block()
		b[104] = byte(x)
		refused(t, b, "a gap of one byte", x)
	}
}

// P16.1: bytes of other lengths are no gap block, whatever stands in them and in the room behind them.
func TestOpenOfOtherLengths(t *testing.T) {
	refused(t, nil, "nil")
	for _, m := range []model{{"", 0}, {"abc", 1}, {rising(252), 252}, {zeros(252), 0}} {
		long := append(append(m.block(), m.block()...), m.block()...)
		for n := range len(long) + 1 {
			if n == 256 {
				taken(t, long[:n], m, m)
			} else {
				refused(t, long[:n], m, "so many bytes of it:", n)
				refused(t, slices.Clip(slices.Clone(long[:n])), m, "so many bytes:", n)
			}
		}
	}
	refused(t, make([]byte, 1<<16+256), "many bytes")
}

// P16.1, R5: what Open was handed is not kept: neither changes the other.
func TestOpenKeepsNothing(t *testing.T) {
	for _, m := range models() {
		room := append(m.block(), "room behind the end"...)
		b := room[:256]
		g, e := gap.Open(b)
		if e != api.OK {
			t.Fatalf("Open of %v = %d", m, e)
		}
		other := m.gap(t)
		for i := range b {
			b[i] ^= 0x5a
		}
		m.is(t, g, m)
		was := slices.Clone(room)
		well(t, g.Delete(0, len(m.text)), g.Insert(0, sparse(252)))
		model{sparse(252), 252}.is(t, g, m)
		if !bytes.Equal(room, was) {
			t.Fatalf("%v: a change of the gap changed what Open was handed", m)
		}
		m.is(t, other, m)
	}
}

// P16.2, R5: what Block answers is new memory: neither the gap nor another answer is changed through it.
func TestBlockIsNewMemory(t *testing.T) {
	for _, m := range models() {
		g := m.gap(t)
		one, two := g.Block(), g.Block()
		for i := range one {
			one[i] ^= 0xff
		}
		_ = append(one, 1)
		if !bytes.Equal(two, m.block()) {
			t.Fatalf("%v: two answers of Block share memory", m)
		}
		m.is(t, g, m)
		well(t, g.Insert(0, ""), g.Delete(0, len(m.text)))
		if !bytes.Equal(two, m.block()) {
			t.Fatalf("%v: a change of the gap changed an answer of Block", m)
		}
	}
}
