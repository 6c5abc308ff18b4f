package body_test

import (
	"fmt"
	"math/rand/v2"
	"strings"
	"testing"

	"vellum/api"
	"vellum/body"
)

// P18.5, P18.6: the rows of the examples that change the text.
func TestExamplesOfChanges(t *testing.T) {
	b := made(t, work(t, 4), example)
	if c, e := b.Edit(1, 2, "i"); c != (api.Change{At: 1, Old: "\u00e9", New: "i"}) || e != api.OK || b.Tally().Chars != 7 {
		t.Errorf("Edit = %v, %d; %d characters", c, e, b.Tally().Chars)
	}
	for i, want := range []api.Errno{api.OK, api.ErrChange} {
		if e := b.Apply(api.Change{At: 1, Old: "i", New: "e"}); e != want {
			t.Errorf("Apply %d = %d", i, e)
		}
	}
	if c, e := b.Edit(0, 0, strings.Repeat("x", 4097)); c != (api.Change{}) || e != api.ErrLong {
		t.Errorf("Edit = %.9q, %d", c.New, e)
	}
	modelOf("he\r\n\xff\U0001f600z").tells(t, "examples", b, []int{0, 1, 2, 7})
}

// pieces is texts that are put in: nothing, single characters of each kind, parts of some, more than a chunk.
func pieces() []string {
	return []string{"", "x", "\u00e9", "\xc3", "\xa9", "\r", "\n", "\u2028", "\xff", "\U0001f600\r\n", prose(300, 6)}
}

// P18.5, P18.9: each piece of a short text, by nothing, by something, by itself; what comes of it is what chunks would make of it; the change that is answered, turned round, brings back what was.
func TestEachEdit(t *testing.T) {
	s := scene{text: example + "\xe2\x80", sizes: []int{13}, free: 8}
	n := modelOf(s.text).chars()
	for from := -1; from <= n+1; from++ {
		for to := -1; to <= n+1; to++ {
			for _, x := range pieces() {
				p := s.twins(t)
				if c, e := p.edits(t, "each edit", from, to, x); e == api.OK {
					p.turnedRound(t, c, s.text)
				}
			}
			p := s.twins(t)
			piece, code := modelOf(s.text).piece(from, to)
			was := stateOf(t, p.w)
			if _, e := p.edits(t, "by itself", from, to, s.text[piece.From:piece.To]); e != code {
				t.Errorf("Edit(%d, %d) by itself = %d", from, to, e)
			}
			was.is(t, "by itself", p.w)
		}
	}
}

// turnedRound applies a change that was made, Old and New exchanged, and holds that the text is what it was; then the change once more.
func (p *twins) turnedRound(t *testing.T, c api.Change, was string) {
	t.Helper()
	now := p.s
	if now != was[:c.At]+c.New+was[c.At+len(c.Old):] || was[c.At:c.At+len(c.Old)] != c.Old {
		t.Fatalf("the change {%d, %q, %q} is not what was done", c.At, c.Old, c.New)
	}
	well(t, p.applies(t, "turned round", api.Change{At: c.At, Old: c.New, New: c.Old}))
	if p.s != was {
		t.Fatalf("turned round: %.99q, not %.99q", p.s, was)
	}
	well(t, p.applies(t, "done again", c))
	if p.s != now {
		t.Fatalf("done again: %.99q, not %.99q", p.s, now)
	}
}

// P18.5, P18.9: texts of one chunk to three, in which pieces go over seams, in a heap with blocks enough.
func TestEditsOverSeams(t *testing.T) {
	for _, s := range scenes(3, []int{1, 127, 252}, 24) {
		m := modelOf(s.text)
		near := m.near(s.seams())
		for i, from := range near {
			for j, to := range near {
				if (i+j)%3 > 0 && from >= 0 && to <= m.chars() {
					continue
				}
				p := s.twins(t)
				x := pieces()[(i*7+j)%len(pieces())]
				if c, e := p.edits(t, fmt.Sprint("sizes ", s.sizes), from, to, x); e == api.OK {
					p.turnedRound(t, c, s.text)
				}
			}
		}
	}
}

// P18.6: each byte place of a text, those within characters, too, with what stands there, what does not, and what goes beyond the end.
func TestEachApply(t *testing.T) {
	s := scene{text: example + "\xe2\x80\xa8", sizes: []int{14}, free: 4}
	n := len(s.text)
	for at := -1; at <= n+1; at++ {
		for to := max(at, 0); to <= n; to++ {
			for _, x := range []string{"", "x", "\xa9", s.text[max(at, 0):to]} {
				p := s.twins(t)
				old := s.text[max(at, 0):to]
				for i, old := range []string{old, old + "x", old + "\x00", "h" + old} {
					p = s.twins(t)
					c := api.Change{At: at, Old: old, New: x}
					e := p.applies(t, "each apply", c)
					if i == 0 && at >= 0 && e != api.OK {
						t.Fatalf("Apply(%d, %q, %q) = %d", at, old, x, e)
					}
					if e == api.OK {
						p.turnedRound(t, c, s.text)
					}
				}
			}
		}
	}
}

// P18.6: what stands elsewhere, ahead of the place or behind it, is not there.
func TestOldThatStandsElsewhere(t *testing.T) {
	p := scene{text: "abcab\u00e9abc" + strings.Repeat("abcd", 80), sizes: []int{130, 200}, free: 4}.twins(t)
	was, text := stateOf(t, p.w), p.s
	there := 0
	for at := range 20 {
		for from := range 14 {
			for to := from + 1; to < from+5; to++ {
				old := text[from:to]
				e := p.applies(t, "elsewhere", api.Change{At: at, Old: old, New: old})
				if (e == api.OK) != (text[at:at+len(old)] == old) {
					t.Fatalf("Apply(%d, %q) = %d", at, old, e)
				}
				if e == api.OK {
					there++
				}
			}
		}
	}
	was.is(t, "elsewhere", p.w)
	if there < 56 || there > 500 {
		t.Errorf("%d are there", there)
	}
}

// P18.6, R1: changes whose place is none.
func TestAppliesThatDoNotFit(t *testing.T) {
	for _, s := range []scene{{}, {text: "abc", sizes: []int{3}, free: 2}, {text: prose(400, 1), sizes: []int{252, 148}, free: 20}} {
		p := s.twins(t)
		was := stateOf(t, p.w)
		for _, at := range append(odd(), len(s.text)+1) {
			for _, old := range []string{"", "a", s.text, strings.Repeat("x", 4097)} {
				for _, x := range []string{"", "a", s.text, strings.Repeat("x", 4097)} {
					if e := p.applies(t, "a place that is none", api.Change{At: at, Old: old, New: x}); e != api.ErrChange {
						t.Errorf("Apply at %d = %d", at, e)
					}
				}
			}
		}
		// What is not there goes ahead of what is too long; what is there does not.
		for old, want := range map[string]api.Errno{s.text + "x": api.ErrChange, s.text: api.ErrLong, "": api.ErrLong} {
			if e := p.applies(t, "too long", api.Change{Old: old, New: strings.Repeat("x", 4097)}); e != want {
				t.Errorf("Apply of %d bytes = %d, not %d", len(old), e, want)
			}
		}
		was.is(t, "refused", p.w)
	}
}

// P18.5, P18.6: pieces and texts of just MaxEdit bytes, and of one byte more.
func TestMaxEdit(t *testing.T) {
	s := scene{free: 40}
	for range 40 {
		s.sizes = append(s.sizes, 250)
	}
	s.text = strings.Repeat("abc\n", 2500)
	long := strings.Repeat("x", 4097)
	for _, c := range []struct {
		out, in int
		want    api.Errno
	}{{0, 4096, api.OK}, {0, 4097, api.ErrLong}, {4096, 0, api.OK}, {4097, 0, api.ErrLong}, {4096, 4096, api.OK}, {4097, 4096, api.ErrLong}, {4096, 4097, api.ErrLong}, {4097, 4097, api.ErrLong}, {10000, 0, api.ErrLong}, {10000, 4097, api.ErrLong}} {
		for _, from := range []int{0, 5, 10000 - c.out} {
			if from+c.out > 10000 {
				continue
			}
			p := s.twins(t)
			if _, e := p.edits(t, "MaxEdit", from, from+c.out, long[:c.in]); e != c.want {
				t.Errorf("Edit(%d, %d) by %d = %d", from, from+c.out, c.in, e)
			}
			p = s.twins(t)
			if e := p.applies(t, "MaxEdit", api.Change{At: from, Old: s.text[from : from+c.out], New: long[:c.in]}); e != c.want {
				t.Errorf("Apply at %d of %d by %d = %d", from, c.out, c.in, e)
			}
		}
	}
	// What is too long is so by its bytes, also where it is the piece itself; a piece that is none goes ahead of that.
	p := scene{text: strings.Repeat("\u20ac", 1400), sizes: evenly(4200, 210), free: 40}.twins(t)
	for i, c := range []struct {
		from, to int
		s        string
		want     api.Errno
	}{{0, 1366, "", api.ErrLong}, {0, 1365, "", api.OK}, {0, 35, long, api.ErrLong}, {0, 36, long, api.ErrRange}, {0, 1400, "", api.ErrRange}, {1, 0, long, api.ErrRange}, {-1, 0, long, api.ErrRange}} {
		if _, e := p.edits(t, "wide ones", c.from, c.to, c.s); e != c.want {
			t.Errorf("Edit %d = %d, not %d", i, e, c.want)
		}
	}
	p = scene{text: long, sizes: evenly(4097, 241), free: 20}.twins(t)
	if _, e := p.edits(t, "itself", 0, 4097, long); e != api.ErrLong {
		t.Errorf("Edit by itself = %d", e)
	}
	if e := p.applies(t, "itself", api.Change{Old: long, New: long}); e != api.ErrLong {
		t.Errorf("Apply of itself = %d", e)
	}
}

// evenly is n bytes in parts of one size.
func evenly(n, size int) []int {
	var l []int
	for ; n > 0; n -= size {
		l = append(l, min(n, size))
	}
	return l
}

// P18.5, P18.8: edits that join parts of a character to one, and that part one.
func TestJoinedAndParted(t *testing.T) {
	for _, ahead := range []int{0, 1, 125, 250, 251, 252, 253, 300} {
		for _, c := range []string{"\u00e9", "\u20ac", "\U0001f600", "\r\n", "\u2028", "\u0085", "\ufffd"} {
			for cut := 1; cut < len(c); cut++ {
				pad := strings.Repeat("a", ahead)
				w := work(t, 12)
				b := made(t, w, pad+c[:cut])
				end := b.Tally().Chars
				well(t, second(b.Edit(end, end, c[cut:]+"z")))
				name := fmt.Sprintf("%x cut at %d, behind %d", c, cut, ahead)
				m := modelOf(pad + c + "z")
				m.tells(t, name+", joined", b, m.near([]int{ahead}))
				// Put in as one more character place it parts what stood there.
				well(t, b.Apply(api.Change{At: ahead + cut, New: "-"}))
				m = modelOf(pad + c[:cut] + "-" + c[cut:] + "z")
				m.tells(t, name+", parted", b, m.near([]int{ahead}))
				dash := m.of(ahead + cut)
				if got, e := b.Edit(dash, dash+1, ""); got != (api.Change{At: ahead + cut, Old: "-"}) || e != api.OK {
					t.Fatalf("%s: Edit = %v, %d", name, got, e)
				}
				m = modelOf(pad + c + "z")
				m.tells(t, name+", joined again", b, m.near([]int{ahead}))
			}
		}
	}
}

// P18.5, P18.6, W4: too few free blocks: ErrSpace ahead of the Delete (there is none), and behind it; what chunks did by then stays in the work, and the reference stays.
func TestNoSpace(t *testing.T) {
	seen := map[api.Errno]int{}
	for _, sizes := range [][]int{nil, {1}, {252}, {252, 252}, {130, 123, 252}} {
		for free := range 5 {
			s := scene{text: prose(sum(sizes), 8), sizes: sizes, free: free}
			n := modelOf(s.text).chars()
			for _, x := range []string{"x", prose(252, 1), prose(300, 2), prose(1200, 3)} {
				for _, c := range [][2]int{{0, 0}, {n, n}, {n / 2, n / 2}, {0, n}, {0, n / 2}, {n / 2, n}, {n / 3, n / 2}} {
					name := fmt.Sprint("sizes ", sizes, ", free ", free)
					p := s.twins(t)
					_, e := p.edits(t, name, c[0], c[1], x)
					seen[e]++
					p = s.twins(t)
					piece, _ := modelOf(s.text).piece(c[0], c[1])
					if f := p.applies(t, name, api.Change{At: piece.From, Old: s.text[piece.From:piece.To], New: x}); f != e {
						t.Errorf("%s: Apply = %d, Edit = %d", name, f, e)
					}
				}
			}
		}
	}
	if seen[api.ErrSpace] < 100 || seen[api.OK] < 100 || len(seen) != 2 {
		t.Errorf("seen %v", seen)
	}
}

// P18.5: a heap in which no block is free: what needs none is done.
func TestFullHeap(t *testing.T) {
	s := scene{text: prose(200, 1), sizes: []int{200}}
	n := modelOf(s.text).chars()
	for _, x := range []string{"", "x", strings.Repeat("y", 52)} {
		p := s.twins(t)
		if _, e := p.edits(t, "full", n, n, x); e != api.OK {
			t.Errorf("Edit by %d = %d", len(x), e)
		}
	}
	p := s.twins(t)
	if c, e := p.edits(t, "full", n, n, strings.Repeat("y", 53)); e != api.ErrSpace || c != (api.Change{}) {
		t.Errorf("Edit = %v, %d", c, e)
	}
	p = s.twins(t)
	if c, e := p.edits(t, "full", 0, n, strings.Repeat("y", 253)); e != api.ErrSpace || c != (api.Change{}) || p.b.Ref() != p.ref {
		t.Errorf("Edit = %v, %d, Ref %d", c, e, p.b.Ref())
	}
	well(t, p.w.Drop())
}

// P18.5, P18.6, P18.9: long rows of edits and changes, in each of which the text is a string's; then all of them turned round, the last one first.
func TestLongRows(t *testing.T) {
	r := rand.New(rand.NewPCG(18, 5))
	for kind := range 4 {
		p := scene{free: 120}.twins(t)
		var done []api.Change
		for len(done) < 150 {
			m := modelOf(p.s)
			from := r.IntN(m.chars() + 1)
			to := min(m.chars(), from+[]int{0, 0, 1, 2, 40, 400}[r.IntN(6)])
			x := prose([]int{0, 1, 2, 3, 30, 300, 700}[r.IntN(7)], r.IntN(16))
			if len(p.s) > 8000 {
				x = ""
			}
			if r.IntN(2) == 0 {
				c, e := p.edits(t, fmt.Sprint("row ", kind), from, to, x)
				well(t, e)
				done = append(done, c)
				continue
			}
			// By bytes, also within characters.
			at := r.IntN(len(p.s) + 1)
			c := api.Change{At: at, Old: p.s[at:min(len(p.s), at+to-from)], New: x}
			well(t, p.applies(t, fmt.Sprint("row ", kind), c))
			done = append(done, c)
		}
		m := modelOf(p.s)
		m.tells(t, fmt.Sprint("row ", kind), p.b, m.near([]int{0, 252, len(p.s) / 2, len(p.s)}))
		for i := len(done) - 1; i >= 0; i-- {
			c := done[i]
			well(t, p.applies(t, "turned round", api.Change{At: c.At, Old: c.New, New: c.Old}))
		}
		if p.s != "" || p.b.Ref() != 0 || len(p.w.Taken()) != 0 {
			t.Errorf("row %d: %d bytes are left", kind, len(p.s))
		}
	}
}

// P18.5: nothing is done to the device until the work is committed; then the text is there, in a later work.
func TestNothingDoneToTheDevice(t *testing.T) {
	d := device(t, 20)
	h := heap(t, d)
	was := d.Copy()
	w := begun(t, h)
	b := made(t, w, prose(900, 2))
	well(t, second(b.Edit(3, 200, "xyz")))
	s, e := b.Text(0, b.Tally().Chars)
	well(t, e)
	untouched(t, "edits", d, was)
	well(t, w.Commit())
	w = begun(t, h)
	m := modelOf(s)
	m.tells(t, "committed", opened(t, w, b.Ref()), m.near([]int{0, 250, len(s)}))
}

// P18.5, R2: an Edit or an Apply that is refused, or that changes nothing, does nothing to the work.
func TestRefusedDoesNothing(t *testing.T) {
	s := scene{text: prose(600, 4), sizes: []int{252, 252, 96}, free: 30}
	_, w, ref := s.lay(t)
	b := opened(t, w, ref)
	m := modelOf(s.text)
	was := stateOf(t, w)
	long := strings.Repeat("x", 4097)
	for name, call := range map[string]func(b *body.Body) api.Errno{
		"beyond":     func(b *body.Body) api.Errno { return second(b.Edit(0, m.chars()+1, "x")) },
		"below":      func(b *body.Body) api.Errno { return second(b.Edit(-1, 2, "x")) },
		"too long":   func(b *body.Body) api.Errno { return second(b.Edit(0, 1, long)) },
		"not there":  func(b *body.Body) api.Errno { return b.Apply(api.Change{At: 1, Old: "no such", New: "x"}) },
		"a long one": func(b *body.Body) api.Errno { return b.Apply(api.Change{At: 1, New: long}) },
	} {
		if call(b) == api.OK || b.Ref() != ref {
			t.Errorf("%s: done", name)
		}
		was.is(t, name, w)
	}
	for from := range m.chars() + 1 {
		to := min(m.chars(), from+from%9)
		piece := m.s[m.places[from]:m.places[to]]
		if c, e := b.Edit(from, to, piece); c != (api.Change{At: m.places[from], Old: piece, New: piece}) || e != api.OK {
			t.Fatalf("Edit(%d, %d) by itself = %v, %d", from, to, c, e)
		}
		well(t, b.Apply(api.Change{At: from, Old: m.s[from : from+from%9], New: m.s[from : from+from%9]}))
	}
	was.is(t, "by itself", w)
	if b.Ref() != ref {
		t.Errorf("Ref = %d, not %d", b.Ref(), ref)
	}
}

// P18.5: what is put in as the piece itself is not written: a later Commit has nothing to do.
func TestItselfIsNotWritten(t *testing.T) {
	d := device(t, 12)
	h := heap(t, d)
	w := begun(t, h)
	b := made(t, w, prose(400, 3))
	well(t, w.Commit())
	w = begun(t, h)
	b = opened(t, w, b.Ref())
	s, e := b.Text(2, 90)
	well(t, e)
	was := d.Copy()
	well(t, second(b.Edit(2, 90, s)), w.Commit())
	untouched(t, "itself", d, was)
}
