package kinds_test

import (
	"math"
	"testing"

	"vellum/kinds"
)

// P5.1: the rows of the examples.
func TestKindsOfRunes(t *testing.T) {
	for r, want := range map[rune]bool{0x20: true, 0x3000: true, 0x200B: false} {
		if kinds.Blank(r) != want {
			t.Errorf("Blank(%X) is %v", r, !want)
		}
	}
	for r, want := range map[rune]bool{0x5F: true, 0xD7: false, 0x4E16: true} {
		if kinds.Word(r) != want {
			t.Errorf("Word(%X) is %v", r, !want)
		}
	}
	for r, want := range map[rune]bool{0xD: true, 0xB: false} {
		if kinds.Ends(r) != want {
			t.Errorf("Ends(%X) is %v", r, !want)
		}
	}
	for r, want := range map[rune]int{0x41: 1, 0: 0, 0x301: 0, 0x4E16: 2, 0x1F600: 2, 0xFFFD: 1, -1: 1, 9: 0} {
		if n := kinds.Width(r); n != want {
			t.Errorf("Width(%X) = %d", r, n)
		}
	}
	for r, want := range map[rune]rune{0x41: 0x61, 0x61: 0x61, 0xD7: 0xD7, 0x130: 0x130, 0x178: 0xFF, 0x3C2: 0x3C3, 0x1E9E: 0xDF, 0x10400: 0x10428} {
		if to := kinds.Fold(r); to != want {
			t.Errorf("Fold(%X) = %X", r, to)
		}
	}
}

// P5.1, R1: what is no rune that may be is of no kind, has the width 1, and stays.
func TestNoRunes(t *testing.T) {
	for _, r := range []rune{math.MinInt32, math.MinInt32 + 0x41, -0x110000, -0x41, -9, -1, 0xD800, 0xDBFF, 0xDC00, 0xDFFF, 0x110000, 0x110041, 0x120020, math.MaxInt32} {
		if kinds.Blank(r) || kinds.Word(r) || kinds.Ends(r) || kinds.Width(r) != 1 || kinds.Fold(r) != r {
			t.Errorf("%X: %v, %v, %v, %d, %X", r, kinds.Blank(r), kinds.Word(r), kinds.Ends(r), kinds.Width(r), kinds.Fold(r))
		}
	}
}

// P5.2: the rows of the examples; capitals of other widths; wrong bytes, and what only looks like them.
func TestAlike(t *testing.T) {
	for _, x := range []struct {
		a, b string
		want bool
	}{
		{"\u00C9T\u00C9", "\u00E9t\u00E9", true}, {"\xFF", "\xFF", true}, {"\xFF", "\xFE", false}, {"\xFF", "\xEF\xBF\xBD", false}, {"", "a", false},
		{"", "", true}, {"a", "a", true}, {"a", "A", true}, {"a", "ab", false}, {"aB", "Ab", true}, {"ab", "ba", false}, {"a", "b", false},
		// The one takes more bytes than the other.
		{"\u212A", "k", true}, {"\u212A", "K", true}, {"\u212B\u1E9Ex", "\u00E5\u00DFX", true}, {"\u017Fs", "SS", true}, {"\u2126", "\u03A9", true}, {"\u03C2", "\u03A3", true},
		{"\u1E9E", "ss", false}, {"\u0130", "i", false}, {"\u0130", "\u0131", false}, {"i", "\u0131", false},
		// As they stand, not as they are composed, nor as bytes.
		{"\u00E9", "e\u0301", false}, {"\u00E9", "\u00C3\u00A9", false}, {"\u00E9", "\xC3\xC3", false}, {"\xC3", "\xE3", false}, {"\xC3\xA9", "\xC3", false},
		{"\xEF\xBF\xBD", "\xEF\xBF\xBD", true}, {"\xEF\xBF", "\xEF\xBF", true}, {"\xEF\xBF", "\xEF\xBE", false}, {"\xEF\xBF", "\xFF\xFF", false},
		{"a\xFFB", "A\xFFb", true}, {"a\xFFB", "A\xFEb", false}, {"\x80", "\u0080", false}, {"\xED\xA0\x80", "\xED\xA0\x80", true}, {"\xED\xA0\x80", "\xEF\xBF\xBD", false},
		{"\x00", "", false}, {"\x00", " ", false}, {"x ", "x", false}, {"@", "`", false}, {"[", "{", false}, {"\u00D7", "\u00F7", false},
	} {
		if kinds.Alike(x.a, x.b) != x.want || kinds.Alike(x.b, x.a) != x.want {
			t.Errorf("Alike(%q, %q) = %v, the other way %v", x.a, x.b, kinds.Alike(x.a, x.b), kinds.Alike(x.b, x.a))
		}
	}
}

type step struct {
	s        string
	at, want int
}

// P5.3: the rows of the examples, and each class beside each.
func TestNext(t *testing.T) {
	for _, x := range []step{
		{"ab, cd", 0, 2}, {"ab, cd", 1, 2}, {"ab, cd", 2, 4}, {"ab, cd", 3, 4}, {"ab, cd", 4, 6}, {"ab, cd", 6, 6},
		{"\u00E9 x", 1, 3}, {"\u00E9 x", 0, 3}, {"\u00E9 x", 2, 3}, {"\u00E9 x", 3, 4},
		{"ab, cd", -1, 2}, {"ab, cd", math.MinInt, 2}, {"ab, cd", 7, 6}, {"ab, cd", math.MaxInt, 6},
		{"", 0, 0}, {"", -1, 0}, {"", 5, 0}, {"a", 0, 1}, {" ", 0, 1}, {",", 0, 1}, {"  a", 0, 2}, {"  a", 1, 2}, {"a  ", 0, 3}, {"   ", 1, 3},
		{"a\xFFb", 0, 1}, {"a\xFFb", 1, 2}, {",\xFF,b", 0, 3}, {"\xFF\xFEa", 0, 2}, {"\xFF \xFE", 0, 2},
		{"\u4E16\u754Cx", 0, 7}, {"\u4E16,", 2, 3}, {"a\u3000b", 0, 4}, {"a\u3000b", 2, 4}, {"a\u3000b", 3, 4}, {"\u00E9\xA9z", 2, 3}, {"a\r\nb", 0, 3}, {"a\u200Bb", 0, 1},
	} {
		if got := kinds.Next(x.s, x.at); got != x.want {
			t.Errorf("Next(%q, %d) = %d", x.s, x.at, got)
		}
	}
}

// P5.3: the rows of the examples, and each class beside each.
func TestBack(t *testing.T) {
	for _, x := range []step{
		{"ab, cd", 6, 4}, {"ab, cd", 5, 4}, {"ab, cd", 4, 2}, {"ab, cd", 3, 2}, {"ab, cd", 2, 0}, {"ab, cd", 1, 0}, {"ab, cd", 0, 0}, {"ab, cd", 99, 4},
		{"\u00E9 x", 3, 0}, {"\u00E9 x", 1, 0}, {"\u00E9 x", 4, 3},
		{"ab, cd", -1, 0}, {"ab, cd", math.MinInt, 0}, {"ab, cd", math.MaxInt, 4},
		{"", 0, 0}, {"", -1, 0}, {"", 5, 0}, {"a", 1, 0}, {" ", 1, 0}, {"  a", 2, 0}, {"  a", 3, 2}, {"a  ", 3, 0}, {"a  ", 1, 0},
		{"a\xFFb", 3, 2}, {"a\xFFb", 2, 1}, {"a\xFFb", 1, 0}, {"a,\xFF,", 4, 1}, {"a\xFF\xFE", 3, 1}, {"\xFF \xFE", 3, 2},
		{"x\u4E16\u754C", 7, 0}, {",\u4E16\u754C", 6, 1}, {",\u4E16\u754C", 3, 0}, {",\u4E16\u754C", 4, 1}, {"a\u3000b", 5, 4}, {"a\u3000b", 3, 0}, {"\u00E9\xA9z", 3, 2}, {"a\r\nb", 4, 3}, {"a\u200Bb", 4, 1},
	} {
		if got := kinds.Back(x.s, x.at); got != x.want {
			t.Errorf("Back(%q, %d) = %d", x.s, x.at, got)
		}
	}
}

// P5.4, R8: the rows of the examples; tabs that are too small or too great; columns that are none, and huge ones.
func TestColumns(t *testing.T) {
	for _, x := range []struct {
		s               string
		from, tab, want int
	}{
		{"a", 0, 8, 1}, {"\t", 0, 8, 8}, {"\t", 8, 8, 8}, {"a\t\u4E16", 6, 4, 4}, {"\t", 0, 0, 1}, {"\t", 3, 99, 13}, {"a", -5, 8, 1},
		{"", 0, 8, 0}, {"", 7, 0, 0}, {"\t\t", 1, 8, 15}, {"\t\t", 7, 8, 9}, {"\t", 9, 8, 7}, {"\t", 5, 1, 1},
		{"\t", -5, 8, 8}, {"\t", -1, 8, 8}, {"a\t", -3, 8, 8}, {"\t", math.MinInt, 16, 16},
		{"\t", 3, 15, 12}, {"\t", 3, 16, 13}, {"\t", 3, 17, 13}, {"\t", 3, math.MaxInt, 13}, {"\t", 3, 1, 1}, {"\t", 3, -1, 1}, {"\t", 3, math.MinInt, 1},
		{"\t", math.MaxInt, 16, 1}, {"\t", math.MaxInt - 1, 16, 2}, {"\t\t", math.MaxInt, 16, 17}, {"ab\u4E16", math.MaxInt, 8, 4}, {"ab\t", math.MaxInt, 8, 9}, {"\t", math.MaxInt, math.MaxInt, 1},
		// What has no width, what has two, and wrong bytes.
		{"e\u0301", 0, 8, 1}, {"\r\n\x00", 3, 8, 0}, {"a\nb", 0, 8, 2}, {"\u4E16\u754C", 0, 8, 4}, {"\U0001F600", 0, 8, 2}, {"\xFF\xFE", 0, 8, 2}, {"\xE4\xB8", 0, 8, 2}, {"\xEF\xBF\xBD", 0, 8, 1},
		{"\u4E16\t", 0, 8, 8}, {"\u4E16\t", 7, 8, 9}, {"\xFF\t", 7, 8, 9}, {"\u0301\t", 7, 8, 1}, {"abcdefgh\t|", 0, 8, 17},
	} {
		if got := kinds.Columns(x.s, x.from, x.tab); got != x.want {
			t.Errorf("Columns(%q, %d, %d) = %d", x.s, x.from, x.tab, got)
		}
	}
}
