package kinds_test

import (
	"math"
	"slices"
	"strings"
	"testing"

	"vellum/api"
	"vellum/kinds"
)

// everyRune tells each rune that may be, those around them, and the edges of all ranges, with a high bit turned too.
func everyRune(yield func(rune) bool) {
	for r := rune(-0x1000); r < 0x120000; r++ {
		if !yield(r) {
			return
		}
	}
	for _, r := range edges() {
		if !yield(r) {
			return
		}
	}
}

// P5.1: each rune, so both ends of each range, those next to them, and those in between.
func TestEveryRune(t *testing.T) {
	want := tell()
	for r := range everyRune {
		if kinds.Blank(r) != want.blank[r] || kinds.Word(r) != want.word[r] || kinds.Ends(r) != want.ends[r] {
			t.Fatalf("%X: blank %v, word %v, ends %v", r, kinds.Blank(r), kinds.Word(r), kinds.Ends(r))
		}
		if n := kinds.Width(r); n != want.width(r) {
			t.Fatalf("Width(%X) = %d", r, n)
		}
		if to := kinds.Fold(r); to != want.fold(r) {
			t.Fatalf("Fold(%X) = %X", r, to)
		}
	}
}

// P5.5: of each rune.
func TestWhatFollows(t *testing.T) {
	for r := range everyRune {
		if kinds.Blank(r) && kinds.Word(r) {
			t.Fatalf("%X is a blank and a word rune", r)
		}
		if kinds.Ends(r) && (!kinds.Blank(r) || kinds.Width(r) != 0) {
			t.Fatalf("%X: blank %v, width %d", r, kinds.Blank(r), kinds.Width(r))
		}
		to := kinds.Fold(r)
		if kinds.Fold(to) != to || kinds.Width(to) != kinds.Width(r) {
			t.Fatalf("%X becomes %X, %X; widths %d, %d", r, to, kinds.Fold(to), kinds.Width(r), kinds.Width(to))
		}
	}
}

// P5.2: each rune, up to beyond the last one that is folded, beside what it becomes, and beside the one next to it, in the midst of a text.
func TestAlikeOfRunes(t *testing.T) {
	want := tell()
	for r := rune(0); r <= 0x11000; r++ {
		for _, other := range []rune{want.fold(r), r + 1, r + 0x20} {
			a, b := "x"+string(r)+"\xFF", "X"+string(other)+"\xFF"
			if got := kinds.Alike(a, b); got != slices.Equal(want.keysOf(a), want.keysOf(b)) {
				t.Fatalf("Alike(%q, %q) = %v", a, b, got)
			}
		}
	}
}

// P5.2: each byte beside each, and each two bytes beside their neighbours: some are characters, some are torn.
func TestAlikeOfBytes(t *testing.T) {
	want := tell()
	check := func(a, b string) {
		if got := kinds.Alike(a, b); got != slices.Equal(want.keysOf(a), want.keysOf(b)) {
			t.Fatalf("Alike(%q, %q) = %v", a, b, got)
		}
	}
	for a := range 256 {
		for b := range 256 {
			one, two := string([]byte{byte(a)}), string([]byte{byte(b)})
			check(one, two)
			check(one+two, two+one)
			check(one+two, one+string([]byte{byte(b ^ 0x20)}))
			check("\xC3"+one, "\xC3"+two)
			check("\xEF"+one+two, "\xEF\xBF\xBD")
		}
	}
}

// P5.2, P5.5: each two of many texts, both ways, and what is alike to one and the same.
func TestAlikeIsAnEquivalence(t *testing.T) {
	want := tell()
	texts := textsOf(3, "k", "K", "\u212A", "\u00E9", "\u00C9", "\xC3", "\xA9", "\xEF\xBF\xBD", "\xFF")
	keys := make([][]rune, len(texts))
	for n, s := range texts {
		keys[n] = want.keysOf(s)
	}
	for n, a := range texts {
		if !kinds.Alike(a, a) {
			t.Fatalf("%q is not alike to itself", a)
		}
		for m, b := range texts {
			if got := kinds.Alike(a, b); got != slices.Equal(keys[n], keys[m]) || got != kinds.Alike(b, a) {
				t.Fatalf("Alike(%q, %q) = %v, the other way %v", a, b, got, kinds.Alike(b, a))
			}
		}
	}
	few := texts[:1+9+81]
	for _, a := range few {
		for _, b := range few {
			if !kinds.Alike(a, b) {
				continue
			}
			for _, c := range few {
				if kinds.Alike(a, c) != kinds.Alike(b, c) {
					t.Fatalf("%q and %q are alike, but not beside %q", a, b, c)
				}
			}
		}
	}
}

// P5.3: of all texts, at each place and at what is none.
func TestStopsEverywhere(t *testing.T) {
	want := tell()
	for _, s := range manyTexts() {
		stops := want.stopsOf(s)
		for at := -1; at <= len(s)+1; at++ {
			checkStops(t, s, stops, at)
		}
		checkStops(t, s, stops, math.MinInt)
		checkStops(t, s, stops, math.MaxInt)
	}
}

func checkStops(t *testing.T, s string, stops []int, at int) {
	t.Helper()
	from := brought(s, at)
	if got := kinds.Next(s, at); got != nextOf(stops, len(s), from) {
		t.Fatalf("Next(%q, %d) = %d", s, at, got)
	}
	if got := kinds.Back(s, at); got != backOf(stops, from) {
		t.Fatalf("Back(%q, %d) = %d", s, at, got)
	}
}

// P5.1, P5.3: a word goes on just over word runes, whichever they are.
func TestStopsAtEdges(t *testing.T) {
	want := tell()
	for _, r := range edges() {
		for _, s := range []string{"a" + string(r), string(r) + ",", string(r)} {
			stops := want.stopsOf(s)
			checkStops(t, s, stops, 0)
			checkStops(t, s, stops, len(s))
		}
	}
}

// walk is what a call tells from a place on, again and again, until it stays.
func walk(s string, at int, call func(string, int) int) []int {
	var l []int
	for {
		next := call(s, at)
		if next == at {
			return l
		}
		l = append(l, next)
		at = next
	}
}

// P5.5: from 0 on Next tells all stops but 0, from the end on Back all but the end, and then 0.
func TestWalks(t *testing.T) {
	want := tell()
	for _, s := range manyTexts() {
		checkWalks(t, s, want.stopsOf(s))
	}
}

func checkWalks(t *testing.T, s string, stops []int) {
	t.Helper()
	rising := slices.DeleteFunc(slices.Clone(stops), func(at int) bool { return at == 0 })
	if got := walk(s, 0, kinds.Next); !slices.Equal(got, rising) {
		t.Fatalf("Next over %.40q tells %d stops, not %d", s, len(got), len(rising))
	}
	falling := slices.DeleteFunc(slices.Clone(stops), func(at int) bool { return at == len(s) })
	slices.Reverse(falling)
	if s != "" && (len(falling) == 0 || falling[len(falling)-1] != 0) {
		falling = append(falling, 0)
	}
	if got := walk(s, len(s), kinds.Back); !slices.Equal(got, falling) {
		t.Fatalf("Back over %.40q tells %d stops, not %d", s, len(got), len(falling))
	}
}

// columnTexts is all short texts of tabs and of characters of each width.
func columnTexts() []string {
	l := textsOf(4, "\t", "a", "\u4E16", "\u0301", "\xFF", "\n")
	return append(l, textsOf(4, "\xE4", "\xB8", "\x96", "\t")...)
}

// P5.4: of many texts, from each column on, with each tab, and what is none.
func TestColumnsEverywhere(t *testing.T) {
	want := tell()
	columns := []int{math.MinInt, -1, 0, 1, 2, 3, 7, 15, 16, 17, 1 << 40, math.MaxInt - 5, math.MaxInt}
	tabs := []int{math.MinInt, -1, 0, 1, 2, 3, 4, 7, 8, 15, 16, 17, math.MaxInt}
	for _, s := range columnTexts() {
		for _, from := range columns {
			for _, tab := range tabs {
				if got := kinds.Columns(s, from, tab); got != want.columnsOf(s, from, tab) {
					t.Fatalf("Columns(%q, %d, %d) = %d", s, from, tab, got)
				}
			}
		}
	}
}

// P5.4: a rune alone takes its width, but for the tab.
func TestColumnsAtEdges(t *testing.T) {
	want := tell()
	for _, r := range edges() {
		s := string(r)
		if got := kinds.Columns(s, 5, 8); got != want.columnsOf(s, 5, 8) {
			t.Fatalf("Columns(%q, 5, 8) = %d", s, got)
		}
	}
}

// P5.5: columns of two texts together are those of the one, and of the other from there on.
func TestColumnsJoined(t *testing.T) {
	texts := append(textsOf(3, "\t", "a", "\u4E16", "\u0301", "\xFF"), "\xE4", "\xB8\x96", "\x96\t")
	for _, a := range texts {
		for _, b := range texts {
			if len(charsOf(a))+len(charsOf(b)) != len(charsOf(a+b)) {
				continue
			}
			for _, from := range []int{-3, 0, 1, 6, 13} {
				for _, tab := range []int{0, 1, 3, 8, 16, 20} {
					one := kinds.Columns(a, from, tab)
					other := kinds.Columns(b, max(from, 0)+one, tab)
					if got := kinds.Columns(a+b, from, tab); got != one+other {
						t.Fatalf("Columns(%q + %q, %d, %d) = %d, not %d and %d", a, b, from, tab, got, one, other)
					}
				}
			}
		}
	}
}

// R1, R8: texts as long as one may be; to walk over all stops costs no more than going through the text.
func TestLongTexts(t *testing.T) {
	want := tell()
	for _, part := range []string{"a", " ", ",", "a ", "a,", "\u4E16\u3000", "\xC3", "\xA9", "\u00E9\xA9", "\t", "\U0001F600", "\U00010400\t,"} {
		s := strings.Repeat(part, api.MaxText/len(part))
		checkWalks(t, s, want.stopsOf(s))
		if got := kinds.Columns(s, math.MaxInt, 16); got != want.columnsOf(s, math.MaxInt, 16) {
			t.Errorf("Columns of many %q from the greatest on = %d", part, got)
		}
		if !kinds.Alike(s, s) || kinds.Alike(s, s[:len(s)-1]) || kinds.Alike(s, s+" ") {
			t.Errorf("many %q: alike to itself %v, without the last byte %v, with one more %v", part, kinds.Alike(s, s), kinds.Alike(s, s[:len(s)-1]), kinds.Alike(s, s+" "))
		}
	}
}
