package gap_test

import (
	"math/rand/v2"
	"testing"

	"vellum/api"
	"vellum/gap"
)

// P16.2: each two of a text's places, right and wrong ones, with the gap ahead of all, within and behind all.
func TestSlice(t *testing.T) {
	for _, m := range models() {
		g := m.gap(t)
		m.slices(t, g, m.asked(), m)
		m.holds(t, g, m, "behind Slice")
	}
	for _, m := range []model{{rising(252), 0}, {rising(252), 100}, {sparse(251), 251}, {rising(126), 9}, {"abc", 1}} {
		m.slices(t, m.gap(t), upTo(len(m.text)+1), m)
	}
}

// moves holds one Move against the model, and the one back.
func moves(t *testing.T, m model, at int) {
	t.Helper()
	g := m.gap(t)
	behind, code := m.moved(at)
	if e := g.Move(at); e != code {
		t.Fatalf("%v: Move(%d) = %d, not %d", m, at, e, code)
	}
	behind.is(t, g, m, "Move", at)
	if e := g.Move(m.at); e != api.OK {
		t.Fatalf("%v: Move(%d), Move back = %d", m, at, e)
	}
	m.is(t, g, m, "Move and back", at)
}

// P16.3, P16.4: a Move from each place to each one, right and wrong, changes no text.
func TestMove(t *testing.T) {
	for _, m := range models() {
		for _, at := range m.asked() {
			moves(t, m, at)
		}
	}
	for _, s := range []string{rising(252), sparse(251), rising(127), rising(3), "a", ""} {
		for from := range len(s) + 1 {
			for to := range len(s) + 2 {
				moves(t, model{s, from}, to)
			}
		}
	}
}

// inserts holds one Insert against the model.
func inserts(t *testing.T, m model, at int, s string) {
	t.Helper()
	g := m.gap(t)
	behind, code := m.inserted(at, s)
	if e := g.Insert(at, s); e != code {
		t.Fatalf("%v: Insert(%d, %d bytes) = %d, not %d", m, at, len(s), e, code)
	}
	behind.is(t, g, m, "Insert", at, len(s))
}

// P16.3: an Insert at each place, right and wrong, with the gap there and away from it: of nothing, of one byte, of as many as there is room for, of more; of bytes 0 too. A place that is none comes ahead of room that is none.
func TestInsert(t *testing.T) {
	for _, m := range models() {
		room := 252 - len(m.text)
		for _, at := range m.asked() {
			for _, n := range []int{0, 1, 2, room / 2, max(0, room-1), room, room + 1, room + 2, room + 256, 1<<16 + room} {
				inserts(t, m, at, rising(n))
				inserts(t, m, at, zeros(n))
			}
		}
	}
	for _, m := range []model{{rising(252), 100}, {sparse(251), 251}, {rising(251), 0}, {rising(126), 9}, {"abc", 1}} {
		for at := range len(m.text) + 2 {
			for n := range 254 - len(m.text) {
				inserts(t, m, at, rising(n))
			}
		}
	}
}

// deletes holds one Delete against the model.
func deletes(t *testing.T, m model, from, to int) {
	t.Helper()
	g := m.gap(t)
	behind, code := m.deleted(from, to)
	if e := g.Delete(from, to); e != code {
		t.Fatalf("%v: Delete(%d, %d) = %d, not %d", m, from, to, e, code)
	}
	behind.is(t, g, m, "Delete", from, to)
}

// P16.3: a Delete of each range, right and wrong: of nothing, of one byte, of all, ahead of the gap, behind it, over it.
func TestDelete(t *testing.T) {
	for _, m := range models() {
		for _, from := range m.asked() {
			for _, to := range m.asked() {
				deletes(t, m, from, to)
			}
		}
	}
	for _, m := range []model{{rising(252), 0}, {rising(252), 100}, {sparse(251), 251}, {rising(251), 100}, {rising(126), 9}, {"abc", 1}} {
		for from := range len(m.text) + 2 {
			for to := range len(m.text) + 2 {
				deletes(t, m, from, to)
			}
		}
	}
}

// typed is a gap into which a text was put byte by byte, and the gap brought back byte by byte.
func typed(t *testing.T, m model) *gap.Gap {
	t.Helper()
	g, e := gap.Make("")
	well(t, e)
	for i := range len(m.text) {
		well(t, g.Insert(i, m.text[i:i+1]))
	}
	for i := len(m.text); i > m.at; i-- {
		well(t, g.Move(i-1))
	}
	return g
}

// P16.4: the block of a text and a place is the same, however it came to be: what was put in and taken out again leaves no trace.
func TestNoTraces(t *testing.T) {
	for _, m := range models() {
		made, e := gap.Make(m.text)
		well(t, e, made.Move(m.at))
		m.holds(t, made, m, "Make, Move")
		g := typed(t, m)
		m.holds(t, g, m, "byte by byte")
		room := 252 - len(m.text)
		for at := range len(m.text) + 1 {
			well(t, g.Insert(at, rising(room)), g.Delete(at, at+room))
			model{m.text, at}.is(t, g, m, "filled at", at)
			well(t, g.Insert(m.at, rising(room)), g.Move(at), g.Delete(m.at, m.at+room))
			m.is(t, g, m, "filled at its place, the gap moved to", at)
		}
		full, e := gap.Make(rising(252))
		well(t, e, full.Delete(0, 252), full.Insert(0, m.text[m.at:]), full.Insert(0, m.text[:m.at]))
		m.holds(t, full, m, "that was full")
	}
}

// R3: a gap that is nil, or that no call made (one that was copied by hand among them), answers ErrNil, ahead of all else, and zero values.
func TestNoGap(t *testing.T) {
	full, short := model{rising(252), 9}, model{"abc", 1}
	fullGap, shortGap := full.gap(t), short.gap(t)
	byHand, shortByHand := *fullGap, *shortGap
	some := append(odd(), 0, 1, 3, 252)
	for i, g := range []*gap.Gap{nil, {}, new(gap.Gap), &byHand, &shortByHand} {
		if g.Len() != 0 || g.Room() != 0 || g.At() != 0 || g.Text() != "" || len(g.Block()) != 0 {
			t.Errorf("gap %d: %d, %d, %d, %q, % x", i, g.Len(), g.Room(), g.At(), g.Text(), g.Block())
		}
		for _, at := range some {
			for _, s := range []string{"", "a", rising(252), rising(253)} {
				if e := g.Insert(at, s); e != api.ErrNil {
					t.Errorf("gap %d: Insert(%d, %d bytes) = %d", i, at, len(s), e)
				}
			}
			if e := g.Move(at); e != api.ErrNil {
				t.Errorf("gap %d: Move(%d) = %d", i, at, e)
			}
			for _, to := range some {
				if s, e := g.Slice(at, to); s != "" || e != api.ErrNil {
					t.Errorf("gap %d: Slice(%d, %d) = %q, %d", i, at, to, s, e)
				}
				if e := g.Delete(at, to); e != api.ErrNil {
					t.Errorf("gap %d: Delete(%d, %d) = %d", i, at, to, e)
				}
			}
		}
	}
	full.holds(t, fullGap, "what was copied from")
	short.holds(t, shortGap, "what was copied from")
}

// roll is a place that is mostly one of a text of n bytes.
func roll(r *rand.Rand, n int) int {
	if r.IntN(12) == 0 {
		l := odd()
		return l[r.IntN(len(l))]
	}
	return r.IntN(n + 2)
}

// P16.2 to P16.4: long rows of calls, held against a string and a place behind each one; two gaps beside each other do not know of one another.
func TestRows(t *testing.T) {
	r := rand.New(rand.NewPCG(16, 1))
	for row := range 60 {
		models := [2]model{{sparse(r.IntN(253)), 0}, {rising(r.IntN(253)), 0}}
		gaps := [2]*gap.Gap{models[0].gap(t), models[1].gap(t)}
		for step := range 400 {
			i := r.IntN(2)
			models[i] = oneCall(t, r, gaps[i], models[i])
			for k, m := range models {
				m.is(t, gaps[k], "row", row, "step", step)
			}
			models[i].slices(t, gaps[i], []int{roll(r, len(models[i].text)), roll(r, len(models[i].text)), models[i].at}, "row", row, "step", step)
			if r.IntN(10) == 0 {
				gaps[i] = models[i].gap(t)
			}
		}
	}
}

// oneCall does one of the calls; it is the model behind it.
func oneCall(t *testing.T, r *rand.Rand, g *gap.Gap, m model) model {
	t.Helper()
	n := len(m.text)
	from, to := roll(r, n), roll(r, n)
	var behind model
	var code, e api.Errno
	switch r.IntN(5) {
	case 0:
		behind, code = m.moved(from)
		e = g.Move(from)
	case 1:
		behind, code = m.deleted(from, to)
		e = g.Delete(from, to)
	case 2: // what one who types takes out: a byte at the gap
		behind, code = m.deleted(m.at-1, m.at)
		e = g.Delete(m.at-1, m.at)
	case 3: // and what such a one puts in
		s := rising(r.IntN(12))
		behind, code = m.inserted(m.at, s)
		e = g.Insert(m.at, s)
	default:
		s := sparse(r.IntN(254 - n))
		behind, code = m.inserted(from, s)
		e = g.Insert(from, s)
	}
	if e != code {
		t.Fatalf("%v: a call with %d, %d = %d, not %d", m, from, to, e, code)
	}
	return behind
}
