package body_test

import (
	"fmt"
	"iter"
	"math"
	"slices"
	"testing"

	"vellum/api"
	"vellum/body"
)

// P18.7: the row of the examples.
func TestExamplesOfRunes(t *testing.T) {
	b := made(t, work(t, 4), example)
	for i, c := range []struct {
		l    iter.Seq2[int, rune]
		want []told
	}{
		{b.Runes(5), []told{{5, 0x1f600}, {6, 'z'}}},
		{b.Back(2), []told{{1, 0xe9}, {0, 'h'}}},
		{b.Back(0), nil},
		{b.Runes(7), nil},
	} {
		if got := first(c.l, math.MaxInt); !slices.Equal(got, c.want) {
			t.Errorf("row %d: %v", i, got)
		}
	}
}

// P18.7: from every place, gone through whole and twice, of texts of one chunk, of two, of three.
func TestRunesFromEveryPlace(t *testing.T) {
	for _, s := range []scene{
		{text: "\xff", sizes: []int{1}},
		{text: prose(60, 0), sizes: []int{60}},
		{text: prose(260, 1), sizes: []int{130, 130}},
		{text: prose(505, 2), sizes: []int{252, 1, 252}},
	} {
		b := s.body(t)
		m := modelOf(s.text)
		for char := -2; char <= m.chars()+2; char++ {
			m.tellsRunes(t, fmt.Sprint("sizes ", s.sizes), b, char, math.MaxInt)
		}
		for _, char := range odd() {
			m.tellsRunes(t, fmt.Sprint("sizes ", s.sizes), b, char, math.MaxInt)
		}
	}
}

// P18.7, R7: left early, behind each number of characters, and gone through again; what was told is what the whole tells.
func TestRunesLeftEarly(t *testing.T) {
	s := scene{text: prose(300, 3), sizes: []int{60, 240}}
	b := s.body(t)
	m := modelOf(s.text)
	for _, char := range []int{-1, 0, 1, 40, 41, m.chars() - 1, m.chars(), m.chars() + 1} {
		for n := range m.chars() + 2 {
			m.tellsRunes(t, "left early", b, char, n)
		}
	}
}

// P18.7: one iterator within another one, of the same body, both ways.
func TestRunesWithinRunes(t *testing.T) {
	s := scene{text: prose(253, 4), sizes: []int{127, 126}}
	b := s.body(t)
	m := modelOf(s.text)
	runes, back := b.Runes(0), b.Back(m.chars())
	n := 0
	for char := range runes {
		if got := first(runes, 2); !slices.Equal(got, m.from(0, 2)) {
			t.Fatalf("within: %v", got)
		}
		for last, r := range back {
			if (told{last, r}) != m.back(m.chars(), 1)[0] {
				t.Fatalf("Back within: %d, %x", last, r)
			}
			break
		}
		if char != n {
			t.Fatalf("the character number %d is told as %d", n, char)
		}
		n++
	}
	if n != m.chars() {
		t.Errorf("%d characters, not %d", n, m.chars())
	}
}

// P18.7, R7: an iterator tells what there is when going through it begins, though it was made ahead of an edit.
func TestRunesBehindAnEdit(t *testing.T) {
	b := made(t, work(t, 20), "abc\xc3")
	runes, back, beyond := b.Runes(2), b.Back(4), b.Runes(4)
	if got := first(beyond, 9); got != nil {
		t.Errorf("behind the end: %v", got)
	}
	for i, s := range []string{"\xa9d", "\u20ac\r\n", "\xff", prose(500, 1)} {
		end := b.Tally().Chars
		well(t, second(b.Edit(end, end, s)))
		whole, e := b.Text(0, b.Tally().Chars)
		well(t, e)
		m := modelOf(whole)
		for range 2 {
			if got := first(runes, math.MaxInt); !slices.Equal(got, m.from(2, math.MaxInt)) {
				t.Errorf("edit %d: Runes(2) = %v", i, got)
			}
			if got := first(back, math.MaxInt); !slices.Equal(got, m.back(4, math.MaxInt)) {
				t.Errorf("edit %d: Back(4) = %v", i, got)
			}
			if got := first(beyond, math.MaxInt); !slices.Equal(got, m.from(4, math.MaxInt)) {
				t.Errorf("edit %d: Runes(4) = %v", i, got)
			}
		}
	}
	// The text gets shorter than the place from which they tell.
	well(t, second(b.Edit(1, b.Tally().Chars, "")))
	if got := first(runes, 9); got != nil {
		t.Errorf("Runes(2) of one character = %v", got)
	}
	if got := first(back, 9); !slices.Equal(got, []told{{0, 'a'}}) {
		t.Errorf("Back(4) of one character = %v", got)
	}
}

// R7: going through ends, also where each step puts something in, takes it out, or ends the work.
func TestRunesWhileEdited(t *testing.T) {
	for name, step := range map[string]func(b *body.Body){
		"put in":     func(b *body.Body) { b.Edit(0, 0, "x") },
		"at the end": func(b *body.Body) { b.Edit(b.Tally().Chars, b.Tally().Chars, "x") },
		"taken out":  func(b *body.Body) { b.Edit(0, b.Tally().Chars, "") },
	} {
		for _, back := range []bool{false, true} {
			b := made(t, work(t, 20), prose(300, 2))
			l := b.Runes(0)
			if back {
				l = b.Back(math.MaxInt)
			}
			n := 0
			for range l {
				if n++; n > 100000 {
					t.Fatalf("%s: no end", name)
				}
				step(b)
			}
		}
	}
}

// P18.7: nothing of a body that is none, or where a method would begin with an error; also of an iterator that was made ahead of that.
func TestRunesOfNothing(t *testing.T) {
	d := device(t, 8)
	w := begun(t, heap(t, d))
	b := made(t, w, "abc")
	byHand := *b
	var l []iter.Seq2[int, rune]
	for _, b := range []*body.Body{nil, {}, &byHand} {
		for _, at := range []int{-1, 0, 1, 3, math.MaxInt} {
			l = append(l, b.Runes(at), b.Back(at))
		}
	}
	for _, l := range l {
		if got := first(l, 9); got != nil {
			t.Errorf("of none: %v", got)
		}
	}
	runes, back := b.Runes(0), b.Back(3)
	block, e := w.Read(0)
	well(t, e, w.Write(0, make([]byte, 256)))
	nothing := func(name string) {
		t.Helper()
		for i, l := range []iter.Seq2[int, rune]{runes, back, b.Runes(0), b.Back(3)} {
			if got := first(l, 9); got != nil {
				t.Errorf("%s: iterator %d tells %v", name, i, got)
			}
		}
	}
	nothing("a text that is none")
	well(t, w.Write(0, block))
	if got := first(runes, 9); len(got) != 3 {
		t.Errorf("a text again: %v", got)
	}
	well(t, d.Crash())
	nothing("off")
	well(t, d.Wake())
	nothing("over")
	if e := w.Drop(); e != api.ErrState {
		t.Errorf("not over: %d", e)
	}
}
