package body_test

import (
	"fmt"
	"iter"
	"math"
	"slices"
	"sort"
	"testing"

	"vellum/api"
	"vellum/blocks"
	"vellum/body"
	"vellum/chunks"
	"vellum/lines"
	"vellum/tally"
)

// model is a text as one string, with what the words say of it.
type model struct {
	s      string
	places []int // where its characters begin, and its end
	runes  []rune
}

func modelOf(s string) model {
	m := model{s: s}
	for at, r := range s {
		m.places = append(m.places, at)
		m.runes = append(m.runes, r)
	}
	m.places = append(m.places, len(s))
	return m
}

// chars is how many characters it has.
func (m model) chars() int { return len(m.runes) }

// has says whether a number is a character place.
func (m model) has(char int) bool { return 0 <= char && char <= m.chars() }

// of is the number of the character that has a byte place of the text.
func (m model) of(at int) int {
	return sort.Search(m.chars(), func(char int) bool { return m.places[char+1] > at })
}

// piece is the bytes between two places, where there are such.
func (m model) piece(from, to int) (api.Piece, api.Errno) {
	if from < 0 || from > to || to > m.chars() {
		return api.Piece{}, api.ErrRange
	}
	return api.Piece{From: m.places[from], To: m.places[to]}, api.OK
}

// told is a character as an iterator tells it.
type told struct {
	char int
	r    rune
}

// from is at most n characters from a place on.
func (m model) from(char, n int) []told {
	var l []told
	for i := max(char, 0); i < m.chars() && len(l) < n; i++ {
		l = append(l, told{i, m.runes[i]})
	}
	return l
}

// back is at most n characters ahead of a place, the last one first.
func (m model) back(char, n int) []told {
	var l []told
	for i := max(min(char, m.chars()), 0) - 1; i >= 0 && len(l) < n; i-- {
		l = append(l, told{i, m.runes[i]})
	}
	return l
}

// first is at most n of what an iterator tells; it is left then.
func first(l iter.Seq2[int, rune], n int) []told {
	var out []told
	if n == 0 {
		return nil
	}
	for char, r := range l {
		out = append(out, told{char, r})
		if len(out) == n {
			break
		}
	}
	return out
}

// tellsAt holds At and Where of one place, and where they lead back to.
func (m model) tellsAt(t *testing.T, name string, b *body.Body, char int) {
	t.Helper()
	want, spot, code := 0, api.Spot{}, api.ErrRange
	if m.has(char) {
		want = m.places[char]
		spot, code = lines.Where(m.s, want)
	}
	if at, e := b.At(char); at != want || e != code {
		t.Fatalf("%s: At(%d) = %d, %d; not %d, %d", name, char, at, e, want, code)
	}
	if p, e := b.Where(char); p != spot || e != code {
		t.Fatalf("%s: Where(%d) = %v, %d; not %v, %d", name, char, p, e, spot, code)
	}
	if code == api.OK {
		m.tellsOf(t, name, b, want)
		m.tellsPlace(t, name, b, spot)
	}
}

// tellsOf holds Of one byte place.
func (m model) tellsOf(t *testing.T, name string, b *body.Body, at int) {
	t.Helper()
	want, code := 0, api.ErrRange
	if 0 <= at && at <= len(m.s) {
		want, code = m.of(at), api.OK
	}
	if char, e := b.Of(at); char != want || e != code {
		t.Fatalf("%s: Of(%d) = %d, %d; not %d, %d", name, at, char, e, want, code)
	}
}

// tellsPlace holds Place of one spot.
func (m model) tellsPlace(t *testing.T, name string, b *body.Body, p api.Spot) {
	t.Helper()
	want := 0
	at, code := lines.Place(m.s, p)
	if code == api.OK {
		want = m.of(at)
	}
	if char, e := b.Place(p); char != want || e != code {
		t.Fatalf("%s: Place(%v) = %d, %d; not %d, %d", name, p, char, e, want, code)
	}
}

// tellsText holds Text of two places.
func (m model) tellsText(t *testing.T, name string, b *body.Body, from, to int) {
	t.Helper()
	p, code := m.piece(from, to)
	if got, e := b.Text(from, to); got != m.s[p.From:p.To] || e != code {
		t.Fatalf("%s: Text(%d, %d) = %.99q, %d; not %.99q, %d", name, from, to, got, e, m.s[p.From:p.To], code)
	}
}

// tellsRunes holds at most n characters of Runes and of Back of a place, told twice.
func (m model) tellsRunes(t *testing.T, name string, b *body.Body, char, n int) {
	t.Helper()
	runes, back := b.Runes(char), b.Back(char)
	for range 2 {
		if got := first(runes, n); !slices.Equal(got, m.from(char, n)) {
			t.Fatalf("%s: Runes(%d) = %.99q, not %.99q", name, char, fmt.Sprint(got), fmt.Sprint(m.from(char, n)))
		}
		if got := first(back, n); !slices.Equal(got, m.back(char, n)) {
			t.Fatalf("%s: Back(%d) = %.99q, not %.99q", name, char, fmt.Sprint(got), fmt.Sprint(m.back(char, n)))
		}
	}
}

// tells holds all that a body tells against a string, asked for these character places and the byte places of the same numbers.
func (m model) tells(t *testing.T, name string, b *body.Body, asked []int) {
	t.Helper()
	if got := b.Tally(); got != tally.Of(m.s) {
		t.Fatalf("%s: Tally = %v, not %v", name, got, tally.Of(m.s))
	}
	m.tellsText(t, name, b, 0, m.chars())
	m.tellsRunes(t, name, b, 0, math.MaxInt)
	m.tellsRunes(t, name, b, m.chars(), math.MaxInt)
	for i, at := range asked {
		m.tellsAt(t, name, b, at)
		m.tellsOf(t, name, b, at)
		m.tellsText(t, name, b, at, asked[(7*i+3)%len(asked)])
		m.tellsText(t, name, b, asked[(5*i+2)%len(asked)], at)
		m.tellsRunes(t, name, b, at, 5)
		m.tellsPlace(t, name, b, api.Spot{Line: at, Column: i % 3})
		m.tellsPlace(t, name, b, api.Spot{Line: i % 3, Column: at})
	}
}

// near is the character places that lie close to byte places, and wrong ones.
func (m model) near(at []int) []int {
	l := []int{-1, math.MinInt, math.MaxInt, m.chars() + 1}
	for _, at := range at {
		char := m.of(at)
		for d := -2; d <= 2; d++ {
			l = append(l, char+d)
		}
	}
	slices.Sort(l)
	return slices.Compact(l)
}

// twins is two works on two devices, on which a text lies in one way: a body tells it on the one, on the other one all is done by chunks, as the words say.
type twins struct {
	b       *body.Body
	w, hand *blocks.Work
	ref     uint32 // on the other one
	s       string
}

func (s scene) twins(t *testing.T) *twins {
	t.Helper()
	_, w, ref := s.lay(t)
	_, hand, _ := s.lay(t)
	return &twins{opened(t, w, ref), w, hand, ref, s.text}
}

// replaces replaces bytes that the text has; with an error what was done to the work stays, and the text is the one that it was.
func (p *twins) replaces(c api.Change) api.Errno {
	switch {
	case len(c.Old) > 4096 || len(c.New) > 4096 || len(p.s)-len(c.Old)+len(c.New) > 1<<20:
		return api.ErrLong
	case c.Old == c.New:
		return api.OK
	}
	ref, e := p.ref, api.OK
	if c.Old != "" {
		ref, e = chunks.Delete(p.hand, ref, c.At, c.At+len(c.Old))
	}
	if c.New != "" && e == api.OK {
		ref, e = chunks.Insert(p.hand, ref, c.At, c.New)
	}
	if e == api.OK {
		p.ref, p.s = ref, p.s[:c.At]+c.New+p.s[c.At+len(c.Old):]
	}
	return e
}

// edits edits both, and holds the answers, and what is told behind it, against each other; it answers the change and the error.
func (p *twins) edits(t *testing.T, name string, from, to int, s string) (api.Change, api.Errno) {
	t.Helper()
	name = fmt.Sprintf("%s, Edit(%d, %d, %d bytes)", name, from, to, len(s))
	piece, code := modelOf(p.s).piece(from, to)
	want := api.Change{}
	if code == api.OK {
		want = api.Change{At: piece.From, Old: p.s[piece.From:piece.To], New: s}
		code = p.replaces(want)
	}
	if code != api.OK {
		want = api.Change{}
	}
	got, e := p.b.Edit(from, to, s)
	if got != want || e != code {
		t.Fatalf("%s = %.99q, %d; not %.99q, %d", name, fmt.Sprint(got), e, fmt.Sprint(want), code)
	}
	p.hold(t, name, e)
	return got, e
}

// applies applies a change to both, likewise.
func (p *twins) applies(t *testing.T, name string, c api.Change) api.Errno {
	t.Helper()
	name = fmt.Sprintf("%s, Apply(%d, %d bytes, %d bytes)", name, c.At, len(c.Old), len(c.New))
	code := api.ErrChange
	// Numbers of any size: the place is held against what is left.
	if 0 <= c.At && c.At <= len(p.s) && len(c.Old) <= len(p.s)-c.At && p.s[c.At:c.At+len(c.Old)] == c.Old {
		code = p.replaces(c)
	}
	if e := p.b.Apply(c); e != code {
		t.Fatalf("%s = %d, not %d", name, e, code)
	}
	p.hold(t, name, code)
	return code
}

// hold holds that both works are alike, and that the body tells the text, if all went well.
func (p *twins) hold(t *testing.T, name string, e api.Errno) {
	t.Helper()
	stateOf(t, p.hand).is(t, name, p.w)
	if p.b.Ref() != p.ref {
		t.Fatalf("%s: Ref = %d, not %d", name, p.b.Ref(), p.ref)
	}
	if e == api.ErrSpace {
		return
	}
	known := tally.Of(p.s)
	if got := p.b.Tally(); got != known {
		t.Fatalf("%s: Tally = %v, not %v", name, got, known)
	}
	if got, e := p.b.Text(0, known.Chars); got != p.s || e != api.OK {
		t.Fatalf("%s: Text = %.99q, %d; not %.99q", name, got, e, p.s)
	}
}
