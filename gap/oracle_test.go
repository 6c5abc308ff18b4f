package gap_test

import (
	"bytes"
	"encoding/binary"
	"fmt"
	"math"
	"slices"
	"strings"
	"testing"

	"vellum/api"
	"vellum/gap"
)

// well does calls that must go well.
func well(t *testing.T, codes ...api.Errno) {
	t.Helper()
	for i, e := range codes {
		if e != api.OK {
			t.Fatalf("call %d = %d", i, e)
		}
	}
}

// rising is n bytes of which none is 0, and none is like the next one.
func rising(n int) string {
	b := make([]byte, n)
	for i := range b {
		b[i] = byte(i%251 + 1)
	}
	return string(b)
}

// zeros is n bytes 0.
func zeros(n int) string { return string(make([]byte, n)) }

// sparse is n bytes of which two out of three are 0: bytes 0 of a text are none of the gap's.
func sparse(n int) string {
	b := make([]byte, n)
	for i := 1; i < n; i += 3 {
		b[i] = byte(i | 1)
	}
	return string(b)
}

// odd is numbers at the ends of ints, and others that no place has.
func odd() []int {
	return []int{math.MinInt, math.MinInt + 1, math.MinInt + 252, math.MinInt + 253, -1 << 32, -1 << 16, -256, -253, -252, -2, -1, 253, 254, 255, 256, 257, 1 << 16, 1<<16 + 1, 1 << 32, 1<<32 + 1, math.MaxInt/2 + 1, math.MaxInt - 253, math.MaxInt - 252, math.MaxInt - 1, math.MaxInt}
}

// model is a text and a place in it: what a gap block is, as the chapter's words say it.
type model struct {
	text string
	at   int
}

func (m model) String() string { return fmt.Sprintf("%d bytes, gap at %d", len(m.text), m.at) }

// block is the 256 bytes, put together from the words alone.
func (m model) block() []byte {
	room := 252 - len(m.text)
	var b []byte
	b = binary.LittleEndian.AppendUint16(b, uint16(m.at))
	b = binary.LittleEndian.AppendUint16(b, uint16(m.at+room))
	return append(b, m.text[:m.at]+zeros(room)+m.text[m.at:]...)
}

// has says whether bytes of the text may be asked for.
func (m model) has(from, to int) bool { return 0 <= from && from <= to && to <= len(m.text) }

// moved is the model behind a Move, and its error.
func (m model) moved(at int) (model, api.Errno) {
	if !m.has(at, at) {
		return m, api.ErrRange
	}
	return model{m.text, at}, api.OK
}

// inserted is the model behind an Insert, and its error.
func (m model) inserted(at int, s string) (model, api.Errno) {
	switch {
	case !m.has(at, at):
		return m, api.ErrRange
	case len(m.text)+len(s) > 252:
		return m, api.ErrRoom
	}
	return model{m.text[:at] + s + m.text[at:], at + len(s)}, api.OK
}

// deleted is the model behind a Delete, and its error.
func (m model) deleted(from, to int) (model, api.Errno) {
	if !m.has(from, to) {
		return m, api.ErrRange
	}
	return model{m.text[:from] + m.text[to:], from}, api.OK
}

// gap is one of that text and that place, by Open alone.
func (m model) gap(t *testing.T) *gap.Gap {
	t.Helper()
	g, e := gap.Open(m.block())
	if g == nil || e != api.OK {
		t.Fatalf("Open of %v = %d", m, e)
	}
	return g
}

// is holds what a gap tells against the model, without Slice. What the name is made of is put together where it is told alone: most of the tests' time would go there.
func (m model) is(t *testing.T, g *gap.Gap, name ...any) {
	t.Helper()
	if g.Len() != len(m.text) || g.Room() != 252-len(m.text) || g.At() != m.at || g.Text() != m.text {
		t.Fatalf("%v: Len %d, Room %d, At %d, Text %q; not %v, %q", name, g.Len(), g.Room(), g.At(), g.Text(), m, m.text)
	}
	if b := g.Block(); !bytes.Equal(b, m.block()) {
		t.Fatalf("%v: Block is % x, not % x", name, b, m.block())
	}
}

// holds holds what a gap tells, and what Open of its Block tells, against the model.
func (m model) holds(t *testing.T, g *gap.Gap, name ...any) {
	t.Helper()
	m.is(t, g, name...)
	again, e := gap.Open(g.Block())
	if e != api.OK {
		t.Fatalf("%v: Open of Block = %d", name, e)
	}
	m.is(t, again, append(name, "opened")...)
}

// slices holds Slice of each two of some places against the model.
func (m model) slices(t *testing.T, g *gap.Gap, places []int, name ...any) {
	t.Helper()
	for _, from := range places {
		for _, to := range places {
			want, code := "", api.ErrRange
			if m.has(from, to) {
				want, code = m.text[from:to], api.OK
			}
			if s, e := g.Slice(from, to); s != want || e != code {
				t.Fatalf("%v: Slice(%d, %d) = %q, %d; not %q, %d", name, from, to, s, e, want, code)
			}
		}
	}
}

// texts is texts of all lengths that are edges, and some between, with and without bytes 0.
func texts() []string {
	var l []string
	for _, n := range []int{0, 1, 2, 3, 64, 125, 126, 127, 200, 250, 251, 252} {
		l = append(l, rising(n), sparse(n))
	}
	return append(l, "a\xc3", "\xa9\r\n\xff", zeros(1), zeros(251), zeros(252), strings.Repeat("\xff", 252))
}

// places is some places of a text of n bytes: its ends, those next to them, some between.
func places(n int) []int {
	var l []int
	for _, at := range []int{0, 1, 2, n / 3, n / 2, n - 2, n - 1, n} {
		if 0 <= at && at <= n {
			l = append(l, at)
		}
	}
	slices.Sort(l)
	return slices.Compact(l)
}

// asked is places that calls are asked for: some of the text's, and wrong ones.
func (m model) asked() []int {
	return append(append(odd(), places(len(m.text))...), m.at, m.at+1, len(m.text)+1)
}

// models is each of the texts with the gap at each of some places.
func models() []model {
	var l []model
	for _, s := range texts() {
		for _, at := range places(len(s)) {
			l = append(l, model{s, at})
		}
	}
	return l
}

// upTo is the numbers from 0 up to n, with n.
func upTo(n int) []int {
	var l []int
	for i := range n + 1 {
		l = append(l, i)
	}
	return l
}
