package body_test

import (
	"fmt"
	"math"
	"slices"
	"strings"
	"testing"

	"vellum/api"
	"vellum/body"
	"vellum/chunks"
	"vellum/lines"
	"vellum/tally"
)

// example is the text of the chapter's examples.
const example = "h\u00e9\r\n\xff\U0001f600z"

// P18.2 to P18.4: the rows of the examples that tell places, with the text in one chunk, and so that a seam cuts it anywhere.
func TestExamplesOfPlaces(t *testing.T) {
	b := made(t, work(t, 4), example)
	for _, c := range []struct {
		from, to int
		s        string
		e        api.Errno
	}{{1, 3, "\xc3\xa9\r", api.OK}, {2, 2, "", api.OK}, {3, 2, "", api.ErrRange}, {0, 8, "", api.ErrRange}} {
		if s, e := b.Text(c.from, c.to); s != c.s || e != c.e {
			t.Errorf("Text(%d, %d) = %q, %d", c.from, c.to, s, e)
		}
	}
	for i, c := range []struct {
		call    func(int) (int, api.Errno)
		n, want int
		e       api.Errno
	}{
		{b.At, 5, 6, api.OK}, {b.At, 7, 11, api.OK}, {b.At, 8, 0, api.ErrRange},
		{b.Of, 6, 5, api.OK}, {b.Of, 9, 5, api.OK}, {b.Of, 10, 6, api.OK}, {b.Of, 11, 7, api.OK}, {b.Of, 12, 0, api.ErrRange},
	} {
		if got, e := c.call(c.n); got != c.want || e != c.e {
			t.Errorf("row %d: %d, %d", i, got, e)
		}
	}
	for char, want := range map[int]api.Spot{3: {Line: 0, Column: 3}, 4: {Line: 1, Column: 0}} {
		if p, e := b.Where(char); p != want || e != api.OK {
			t.Errorf("Where(%d) = %v, %d", char, p, e)
		}
	}
	if char, e := b.Place(api.Spot{Line: 1, Column: 1}); char != 5 || e != api.OK {
		t.Errorf("Place(1 1) = %d, %d", char, e)
	}
	if char, e := b.Place(api.Spot{Line: 0, Column: 3}); char != 0 || e != api.ErrRange {
		t.Errorf("Place(0 3) = %d, %d", char, e)
	}
}

// P18.1 to P18.4, P18.7: the empty text, also where no block is free.
func TestEmptyText(t *testing.T) {
	for _, n := range []int{0, 3} {
		w := work(t, n)
		b := opened(t, w, 0)
		was := stateOf(t, w)
		modelOf("").tells(t, "empty", b, append(odd(), 0, 1, 2))
		if b.Ref() != 0 || b.Tally() != (api.Tally{}) {
			t.Errorf("Ref %d, Tally %v", b.Ref(), b.Tally())
		}
		if c, e := b.Edit(0, 0, ""); c != (api.Change{}) || e != api.OK {
			t.Errorf("Edit = %v, %d", c, e)
		}
		well(t, b.Apply(api.Change{}))
		was.is(t, "empty", w)
	}
}

// P18.1 to P18.4, P18.7: texts of one chunk, of two and of three, of all sizes that are edges: each place.
func TestEachPlace(t *testing.T) {
	for _, s := range scenes(3, []int{1, 2, 127, 252}, 0) {
		b := s.body(t)
		m := modelOf(s.text)
		name := fmt.Sprint("sizes ", s.sizes)
		m.tells(t, name, b, m.near(s.seams()))
		for at := -1; at <= len(s.text)+1; at++ {
			m.tellsAt(t, name, b, at)
			m.tellsOf(t, name, b, at)
		}
	}
}

// P18.2: each two places, those behind the end and ahead of the beginning, too, of a text of one chunk and of one of three; what is ahead, the piece, and what is behind it are the text.
func TestEachTwoPlaces(t *testing.T) {
	seam := scene{text: strings.Repeat("\u20ac", 83) + "\u00e9" + prose(30, 2) + strings.Repeat("\U0001f600", 60), sizes: []int{250, 30, 241}}
	for _, s := range []scene{{text: prose(40, 1), sizes: []int{40}}, seam} {
		b := s.body(t)
		m := modelOf(s.text)
		step := 1 + len(s.text)/60
		for from := -2; from <= m.chars()+2; from += step {
			for to := -2; to <= m.chars()+2; to += step {
				m.tellsText(t, "two places", b, from, to)
			}
			if !m.has(from) {
				continue
			}
			ahead, e := b.Text(0, from)
			well(t, e)
			for _, to := range []int{from, (from + m.chars()) / 2, m.chars()} {
				piece, e := b.Text(from, to)
				rest, f := b.Text(to, m.chars())
				if ahead+piece+rest != s.text || e != api.OK || f != api.OK {
					t.Fatalf("cut at %d and %d: another text", from, to)
				}
			}
		}
	}
}

// P18.4: each spot, and those beyond each line and behind the last one; places that have none; there and back.
func TestEachSpot(t *testing.T) {
	texts := []scene{
		{text: "", sizes: nil},
		{text: "a", sizes: []int{1}},
		{text: "\n", sizes: []int{1}},
		{text: "a\r\n\u00e9\xff\u2028\r\r\nb\u0085", sizes: []int{15}},
		{text: strings.Repeat("x", 251) + "\r\n" + "y\u2028z", sizes: []int{252, 6}},
		{text: prose(300, 3), sizes: []int{252, 48}},
		{text: prose(505, 7), sizes: []int{252, 1, 252}},
	}
	for _, s := range texts {
		b := s.body(t)
		m := modelOf(s.text)
		longest := 0
		for _, l := range lines.Split(s.text) {
			longest = max(longest, modelOf(l).chars())
		}
		for line := -1; line <= lines.Count(s.text)+1; line++ {
			for column := -1; column <= min(longest, 12)+1; column++ {
				m.tellsPlace(t, fmt.Sprintf("%.20q", s.text), b, api.Spot{Line: line, Column: column})
			}
			for _, n := range append(odd(), longest-1, longest, longest+1) {
				m.tellsPlace(t, fmt.Sprintf("%.20q", s.text), b, api.Spot{Line: line, Column: n})
				m.tellsPlace(t, fmt.Sprintf("%.20q", s.text), b, api.Spot{Line: n, Column: line})
			}
		}
		for char := range m.chars() + 1 {
			p, e := b.Where(char)
			well(t, e)
			back, e := b.Place(p)
			// The places within a line end are none that a column has: only its beginning is one.
			if piece, _, f := lines.Line(s.text, p.Line); f != api.OK || (m.places[char] <= piece.To) != (e == api.OK && back == char) {
				t.Fatalf("%.20q: Where(%d) = %v, Place of it %d, %d", s.text, char, p, back, e)
			}
		}
	}
}

// P18.2 to P18.4, P18.7, R1: places at the ends of ints, and others that the texts do not have; nothing is done.
func TestWrongPlaces(t *testing.T) {
	for _, s := range []scene{{text: prose(1, 0), sizes: []int{1}}, {text: prose(400, 1), sizes: []int{150, 250}}} {
		d, w, ref := s.lay(t)
		b := opened(t, w, ref)
		m := modelOf(s.text)
		before, was := stateOf(t, w), d.Copy()
		wrong := append(odd(), -1, m.chars()+1, m.chars()+2, len(s.text)+1, len(s.text)+252)
		m.tells(t, "wrong places", b, wrong)
		for _, at := range wrong {
			for _, to := range append(slices.Clone(wrong), 0, m.chars()/2, m.chars()) {
				m.tellsText(t, "wrong places", b, at, to)
				m.tellsText(t, "wrong places", b, to, at)
			}
		}
		before.is(t, "wrong places", w)
		untouched(t, "wrong places", d, was)
	}
}

// P18.1 to P18.4, P18.7: a text of some dozens of chunks, of which a table of several blocks tells.
func TestDozensOfChunks(t *testing.T) {
	s := dozens(0)
	d, w, ref := s.lay(t)
	before, was := stateOf(t, w), d.Copy()
	b := opened(t, w, ref)
	m := modelOf(s.text)
	m.tells(t, "dozens", b, m.near(s.seams()))
	if b.Ref() != ref {
		t.Errorf("Ref = %d, not %d", b.Ref(), ref)
	}
	before.is(t, "dozens", w)
	untouched(t, "dozens", d, was)
}

// P18.1: Ref and Tally of two bodies in one work, and of two of one text; an edit by the one is none of the other's reference.
func TestTwoBodies(t *testing.T) {
	w := work(t, 12)
	a := made(t, w, "one text")
	b := made(t, w, "another text")
	if a.Ref() == b.Ref() || a.Ref() == 0 || b.Ref() == 0 {
		t.Fatalf("references %d, %d", a.Ref(), b.Ref())
	}
	c := opened(t, w, a.Ref())
	was := a.Ref()
	well(t, second(a.Edit(0, 8, "")))
	if a.Ref() != 0 || c.Ref() != was {
		t.Errorf("references %d, %d; not 0, %d", a.Ref(), c.Ref(), was)
	}
	if c.Tally() != (api.Tally{}) || second(c.Text(0, 0)) != api.ErrChunks {
		t.Errorf("a text of blocks that were given")
	}
	modelOf("").tells(t, "taken out", a, []int{0, 1})
	modelOf("another text").tells(t, "the other one", b, []int{0, 7, 12})
	well(t, second(a.Edit(0, 0, "a third one")))
	modelOf("a third one").tells(t, "put in", a, []int{0, 7, 11})
	modelOf("another text").tells(t, "the other one", b, []int{0, 7, 12})
}

// P18.1: what one work leaves, a body in the next one tells.
func TestLaterWork(t *testing.T) {
	h := heap(t, device(t, 20))
	w := begun(t, h)
	s := prose(1000, 4)
	ref := made(t, w, s).Ref()
	well(t, w.Commit())
	w = begun(t, h)
	b := opened(t, w, ref)
	m := modelOf(s)
	m.tells(t, "later", b, m.near([]int{0, 252, 500, 1000}))
	well(t, second(b.Edit(1, 2, "x")), w.Drop())
	w = begun(t, h)
	m.tells(t, "dropped", opened(t, w, ref), []int{0, 1, 2})
}

// P18.2 to P18.7: a text of MaxText bytes; no edit makes it longer, and one that has a byte more is none.
func TestMaxText(t *testing.T) {
	const most = 1 << 20
	w := work(t, 5000)
	s := strings.Repeat(prose(4094, 2)+"\r\n", most/4096)
	ref, e := chunks.Insert(w, 0, 0, s)
	well(t, e)
	b := opened(t, w, ref)
	m := modelOf(s)
	if b.Tally() != tally.Of(s) {
		t.Errorf("Tally = %v", b.Tally())
	}
	for _, char := range []int{0, 1, m.chars() / 2, m.chars() - 1, m.chars(), m.chars() + 1} {
		m.tellsAt(t, "MaxText", b, char)
		m.tellsText(t, "MaxText", b, char, m.chars())
		m.tellsRunes(t, "MaxText", b, char, 3)
	}
	m.tellsOf(t, "MaxText", b, most)
	m.tellsOf(t, "MaxText", b, most+1)
	before := stateOf(t, w)
	n := m.chars()
	for i, c := range []struct {
		from, to int
		s        string
		want     api.Errno
	}{
		{0, 0, "x", api.ErrLong}, {n, n, "x", api.ErrLong}, {n, n, "", api.OK}, {5, 5, strings.Repeat("x", 4096), api.ErrLong},
		{n - 1, n, "\n\n", api.ErrLong}, {n - 1, n, "\n", api.OK}, {0, n, "", api.ErrLong}, {0, n, "x", api.ErrLong}, {0, n + 1, "x", api.ErrRange},
	} {
		if got, e := b.Edit(c.from, c.to, c.s); e != c.want || e != api.OK && got != (api.Change{}) {
			t.Errorf("Edit %d: %d", i, e)
		}
	}
	for i, c := range []struct {
		c    api.Change
		want api.Errno
	}{
		{api.Change{At: most, New: "x"}, api.ErrLong}, {api.Change{At: most + 1, New: "x"}, api.ErrChange}, {api.Change{At: most - 1, Old: "\n", New: "xy"}, api.ErrLong},
		{api.Change{At: most, Old: "\n"}, api.ErrChange}, {api.Change{Old: s}, api.ErrLong}, {api.Change{Old: s, New: s}, api.ErrLong}, {api.Change{Old: s + "x"}, api.ErrChange},
	} {
		if e := b.Apply(c.c); e != c.want {
			t.Errorf("Apply %d: %d", i, e)
		}
	}
	before.is(t, "MaxText", w)
	// As many bytes as go may come, and no more.
	c, e := b.Edit(n-1, n, "xy"[:1])
	well(t, e, b.Apply(api.Change{At: most - 1, Old: "x"}))
	if c != (api.Change{At: most - 1, Old: "\n", New: "x"}) || b.Tally().Bytes != most-1 {
		t.Errorf("Edit = %v, %d bytes", c, b.Tally().Bytes)
	}
	if e := second(b.Edit(0, 0, "xy")); e != api.ErrLong {
		t.Errorf("Edit = %d", e)
	}
	well(t, second(b.Edit(0, 0, "x")))
	if got, e := b.Text(0, b.Tally().Chars); got != "x"+s[:most-1] || e != api.OK {
		t.Errorf("Text = %.20q, %d", got, e)
	}
}

// P18.1: a body keeps its reference while its work is over; a nil one, and one that no call made, has none.
func TestRef(t *testing.T) {
	w := work(t, 8)
	b := made(t, w, "abc")
	ref := b.Ref()
	well(t, w.Drop())
	if b.Ref() != ref || ref == 0 || b.Tally() != (api.Tally{}) {
		t.Errorf("over: Ref %d, not %d; Tally %v", b.Ref(), ref, b.Tally())
	}
	byHand := *b
	for i, b := range []*body.Body{nil, {}, &byHand} {
		if b.Ref() != 0 || b.Tally() != (api.Tally{}) {
			t.Errorf("none %d: Ref %d, Tally %v", i, b.Ref(), b.Tally())
		}
	}
}

// R8: places whose sums would wrap.
func TestGreatSums(t *testing.T) {
	b := made(t, work(t, 4), "abc")
	for _, at := range []int{math.MaxInt, math.MaxInt - 1, math.MaxInt - 2} {
		for _, old := range []string{"", "a", "bc", "abc", strings.Repeat("x", 4097)} {
			for _, s := range []string{"", "x"} {
				if e := b.Apply(api.Change{At: at, Old: old, New: s}); e != api.ErrChange {
					t.Errorf("Apply at %d = %d", at, e)
				}
			}
		}
	}
}
