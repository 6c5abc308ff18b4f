package body_test

import (
	"fmt"
	"strings"
	"testing"

	"vellum/api"
	"vellum/chunks"
	"vellum/lines"
	"vellum/tally"
	"vellum/utf"
)

// cutAt is a text in which something stands, cut within it once or twice, or at its ends: the chunks ahead and behind are as long as they may be, or as they must.
func cutAt(item string, cuts ...int) scene {
	first, last := cuts[0], cuts[len(cuts)-1]
	s := scene{text: strings.Repeat("x", 252-first) + item, sizes: []int{252}}
	behind := len(item) - last
	if len(cuts) == 2 && first < last {
		s.sizes = append(s.sizes, last-first)
		s.text += strings.Repeat("y", 253-(last-first)-behind)
		s.sizes = append(s.sizes, 253-(last-first))
		return s
	}
	s.text += strings.Repeat("y", 100)
	s.sizes = append(s.sizes, behind+100)
	return s
}

// eachCut is all ways in which something lies over one seam, or over two with a chunk of one to three bytes between.
func eachCut(item string) []scene {
	var l []scene
	for first := range len(item) + 1 {
		l = append(l, cutAt(item, first))
		for last := first + 1; last <= min(len(item), first+3); last++ {
			l = append(l, cutAt(item, first, last))
		}
	}
	return l
}

// P18.2 to P18.4, P18.7, P18.8: characters of each width, wrong bytes, beginnings without an end, line ends, each over a seam of two and of three chunks, in every way of lying there, next to others.
func TestOverSeams(t *testing.T) {
	for _, item := range []string{
		"\u00e9", "\u20ac", "\U0001f600", "\ufffd", "\r\n", "\u0085", "\u2028", "\u2029", "\xff", "\xc3", "\xe2\x82", "\xf0\x9f\x98", "\x80", "\xed\xa0\x80", "\xc0\x80", "\xf4\x90\x80\x80",
		"\r", "\n", "\r\r\n", "\r\n\n", "\r\u20ac\n", "\xe2\x80\u2028", "\u00e9\u20ac\U0001f600", "\xf0\x9f\r\n\x98\x80", "\xe2\u00e9\x82\xac",
	} {
		for _, s := range eachCut(item) {
			b := s.body(t)
			m := modelOf(s.text)
			at := strings.Index(s.text, item)
			name := fmt.Sprintf("%x in chunks of %v", item, s.sizes)
			m.tells(t, name, b, m.near([]int{at, at + len(item)}))
			for from := m.of(at) - 1; from <= m.of(at+len(item))+1; from++ {
				for to := from; to <= m.of(at+len(item))+1; to++ {
					m.tellsText(t, name, b, from, to)
				}
			}
			for from := at - 1; from <= at+len(item)+1; from++ {
				m.tellsOf(t, name, b, from)
			}
		}
	}
}

// P18.3, P18.4, P18.7, P18.8: whatever lies over seams: of small alphabets each row of four bytes, cut in each way.
func TestRowsOverSeams(t *testing.T) {
	for _, alphabet := range []string{"\xc3\xa9a", "\xe2\x80\xa8", "\xf0\x9f\x98", "\r\na", "\xc2\x85\n"} {
		for _, item := range rows(alphabet, 4) {
			for _, s := range eachCut(item) {
				b := s.body(t)
				m := modelOf(s.text)
				name := fmt.Sprintf("%x in chunks of %v", item, s.sizes)
				at := m.of(252)
				for char := at - 3; char <= at+3; char++ {
					m.tellsAt(t, name, b, char)
				}
				m.tellsRunes(t, name, b, at-4, 9)
				m.tellsRunes(t, name, b, at+4, 9)
			}
		}
	}
}

// rows is all rows of n of some bytes.
func rows(alphabet string, n int) []string {
	l := []string{""}
	for range n {
		var next []string
		for _, s := range l {
			for i := range len(alphabet) {
				next = append(next, s+alphabet[i:i+1])
			}
		}
		l = next
	}
	return l
}

// P18.5, P18.6, P18.8, P18.9: edits of characters that seams cut, of one of their neighbours, and of both.
func TestEditsOfCutCharacters(t *testing.T) {
	for _, item := range []string{"\u00e9", "\U0001f600", "\r\n", "\xe2\x82", "\u2028\u00e9"} {
		for _, s := range eachCut(item) {
			s.free = 6
			m := modelOf(s.text)
			at := strings.Index(s.text, item)
			for from := m.of(at) - 1; from <= m.of(at+len(item)); from++ {
				for to := from; to <= m.of(at+len(item))+1; to++ {
					for _, x := range []string{"", "\xac", "--"} {
						p := s.twins(t)
						name := fmt.Sprintf("%x in chunks of %v", item, s.sizes)
						c, e := p.edits(t, name, from, to, x)
						well(t, e)
						p.turnedRound(t, c, s.text)
					}
				}
			}
		}
	}
}

// P18.8: one text, however it lies in chunks, is told in one way; there and back, as chapters 2 and 4 say.
func TestHoweverItLies(t *testing.T) {
	for kind := range 4 {
		text := prose(760, kind)
		m := modelOf(text)
		for i, sizes := range [][]int{{252, 252, 252, 4}, {190, 190, 190, 190}, {252, 1, 252, 1, 252, 2}, {127, 126, 127, 126, 127, 127}, {4, 252, 252, 252}} {
			b := scene{text: text, sizes: sizes}.body(t)
			m.tells(t, fmt.Sprint("sizes ", sizes), b, m.near([]int{0, 252, 254, 380, 760}))
			for char := i; char <= m.chars(); char += 5 {
				at, e := b.At(char)
				back, f := b.Of(at)
				well(t, e, f)
				p, e := b.Where(char)
				q, f := lines.Where(text, at)
				well(t, e, f)
				if back != char || !utf.Begins(text, at) || p != q {
					t.Fatalf("character %d: at %d, whose character is %d; %v, not %v", char, at, back, p, q)
				}
			}
			for at := i; at <= len(text); at += 5 {
				char, e := b.Of(at)
				begin, f := b.At(char)
				well(t, e, f)
				if begin > at || (begin == at) != utf.Begins(text, at) {
					t.Fatalf("byte %d: the character %d begins at %d", at, char, begin)
				}
			}
			if b.Tally() != tally.Of(text) {
				t.Errorf("Tally = %v", b.Tally())
			}
		}
	}
}

// P18.1, P18.8: Tally tells what chunks.Tally does, of texts of any sizes.
func TestTallies(t *testing.T) {
	for _, s := range append(scenes(3, []int{1, 2, 251, 252}, 0), dozens(0)) {
		_, w, ref := s.lay(t)
		want, e := chunks.Tally(w, ref)
		well(t, e)
		if got := opened(t, w, ref).Tally(); got != want || got != tally.Of(s.text) {
			t.Errorf("sizes %v: Tally = %v, not %v", s.sizes, got, want)
		}
		if got := opened(t, w, 0).Tally(); got != (api.Tally{}) {
			t.Errorf("of the empty text: %v", got)
		}
	}
}
