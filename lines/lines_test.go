package lines_test

import (
	"math"
	"slices"
	"strings"
	"testing"
	"unsafe"

	"vellum/api"
	"vellum/lines"
)

// line is what All tells of one.
type line struct {
	from, to, width int
}

func collect(s string) []line {
	var l []line
	for piece, width := range lines.All(s) {
		l = append(l, line{piece.From, piece.To, width})
	}
	return l
}

// The text of the examples of Where and Place.
const sample = "\xC3\xA9\r\n\xFFx"

// P4.1: the rows of the examples, and each kind of line end.
func TestEnd(t *testing.T) {
	for _, x := range []struct {
		s         string
		at, width int
	}{
		{"a\r\nb", 1, 2}, {"a\r\nb", 2, 0}, {"a\r\nb", 0, 0}, {"a\r\nb", 3, 0}, {"a\r\nb", 4, 0}, {"a\r\nb", 9, 0},
		{"\rb", 0, 1}, {"\rb", 1, 0},
		{"\xE2\x80\xA8", 0, 3}, {"\xE2\x80\xA8", 1, 0}, {"\xE2\x80\xA8", 2, 0}, {"\xE2\x80\xA8", 3, 0},
		{"\xE2\x80\xA9", 0, 3}, {"\xE2\x80\xA9", 1, 0}, {"\xE2\x80\xA9", 2, 0}, {"\xE2\x80\xA9", 3, 0},
		{"\xC2\x85", 0, 2}, {"\xC2\x85", 1, 0}, {"\xC2\x85", 2, 0},
		{"\n", 0, 1}, {"\n", 1, 0}, {"\r", 0, 1}, {"\r\n", 0, 2}, {"\r\n", 1, 0},
		{"\n\r", 0, 1}, {"\n\r", 1, 1}, {"\n\r\n", 1, 2}, {"\n\r\n", 2, 0},
		{"\r\r\n\n", 0, 1}, {"\r\r\n\n", 1, 2}, {"\r\r\n\n", 2, 0}, {"\r\r\n\n", 3, 1},
		{"\r\n\r\n", 0, 2}, {"\r\n\r\n", 1, 0}, {"\r\n\r\n", 2, 2}, {"\r\n\r\n", 3, 0},
		{"\n\n", 0, 1}, {"\n\n", 1, 1}, {"\r\r", 0, 1}, {"\r\r", 1, 1},
		{"\rx\n", 0, 1}, {"\rx\n", 2, 1}, {"\r\xC2\x85\n", 0, 1}, {"\r\xC2\x85\n", 1, 2}, {"\r\xC2\x85\n", 3, 1},
		{"\xE2\x80\xC2\x85", 0, 0}, {"\xE2\x80\xC2\x85", 2, 2}, {"\xF0\x9F\xE2\x80\xA8\x98", 2, 3},
		{"", 0, 0}, {"", 1, 0}, {"", -1, 0},
	} {
		if width, begins := lines.End(x.s, x.at); width != x.width || begins != (x.width > 0) {
			t.Errorf("End(%q, %d) = %d, %v", x.s, x.at, width, begins)
		}
	}
}

// P4.1: what only begins like a line end, or ends like one, is none.
func TestNoEnd(t *testing.T) {
	for _, s := range nearEnds {
		for _, around := range []string{"", "x"} {
			text := around + s + around
			for at := range len(text) + 1 {
				if width, begins := lines.End(text, at); width != 0 || begins {
					t.Errorf("End(%q, %d) = %d, %v", text, at, width, begins)
				}
			}
			if n := lines.Count(text); n != 1 {
				t.Errorf("Count(%q) = %d", text, n)
			}
		}
	}
}

// P4.2: the rows of the examples, and line ends at the beginning, within and at the end.
func TestAll(t *testing.T) {
	for _, x := range []struct {
		s string
		l []line
	}{
		{"", []line{{0, 0, 0}}},
		{"a", []line{{0, 1, 0}}},
		{"a\n", []line{{0, 1, 1}, {2, 2, 0}}},
		{"\na", []line{{0, 0, 1}, {1, 2, 0}}},
		{"\r\r\n", []line{{0, 0, 1}, {1, 1, 2}, {3, 3, 0}}},
		{"ab\n\rc", []line{{0, 2, 1}, {3, 3, 1}, {4, 5, 0}}},
		{"\r\na\r\n\r\nb\r\n", []line{{0, 0, 2}, {2, 3, 2}, {5, 5, 2}, {7, 8, 2}, {10, 10, 0}}},
		{"\u0085a\u0085\u0085", []line{{0, 0, 2}, {2, 3, 2}, {5, 5, 2}, {7, 7, 0}}},
		{"\u2028\u00E9\u2029", []line{{0, 0, 3}, {3, 5, 3}, {8, 8, 0}}},
		{"\xFF\n\xE2\x80\n\xA8", []line{{0, 1, 1}, {2, 4, 1}, {5, 6, 0}}},
		{"\n\r", []line{{0, 0, 1}, {1, 1, 1}, {2, 2, 0}}},
	} {
		if got := collect(x.s); !slices.Equal(got, x.l) {
			t.Errorf("All(%q) tells %v", x.s, got)
		}
		if n := lines.Count(x.s); n != len(x.l) {
			t.Errorf("Count(%q) = %d", x.s, n)
		}
	}
}

// P4.2: the rows of the examples, and lines that are none.
func TestLine(t *testing.T) {
	for _, x := range []struct {
		s string
		n int
		l line
		e api.Errno
	}{
		{"ab\n\rc", 0, line{0, 2, 1}, api.OK},
		{"ab\n\rc", 1, line{3, 3, 1}, api.OK},
		{"ab\n\rc", 2, line{4, 5, 0}, api.OK},
		{"ab\n\rc", 3, line{}, api.ErrRange},
		{"ab\n\rc", -1, line{}, api.ErrRange},
		{"ab\n\rc", math.MaxInt, line{}, api.ErrRange},
		{"ab\n\rc", math.MinInt, line{}, api.ErrRange},
		{"a\r\n", 0, line{0, 1, 2}, api.OK},
		{"a\r\n", 1, line{3, 3, 0}, api.OK},
		{"a\r\n", 2, line{}, api.ErrRange},
		{"", 0, line{}, api.OK},
		{"", 1, line{}, api.ErrRange},
		{"", -1, line{}, api.ErrRange},
	} {
		piece, width, e := lines.Line(x.s, x.n)
		if got := (line{piece.From, piece.To, width}); got != x.l || e != x.e {
			t.Errorf("Line(%q, %d) = %v, %d", x.s, x.n, got, e)
		}
	}
}

// P4.2: the rows of the examples, and lines with each kind of end.
func TestSplit(t *testing.T) {
	for _, x := range []struct {
		s string
		l []string
	}{
		{"", []string{""}},
		{"a", []string{"a"}},
		{"a\n", []string{"a\n", ""}},
		{"\n", []string{"\n", ""}},
		{"a\rb\r\nc\nd\u0085e\u2028f\u2029g", []string{"a\r", "b\r\n", "c\n", "d\u0085", "e\u2028", "f\u2029", "g"}},
		{"\r\r\n\n", []string{"\r", "\r\n", "\n", ""}},
		{"\xE2\x80\n\xA8\xC2\r\x85", []string{"\xE2\x80\n", "\xA8\xC2\r", "\x85"}},
	} {
		if got := lines.Split(x.s); !slices.Equal(got, x.l) {
			t.Errorf("Split(%q) = %q", x.s, got)
		}
	}
}

// P4.3: the row of the examples, and places that are none.
func TestWhere(t *testing.T) {
	for _, x := range []struct {
		s            string
		at           int
		line, column int
	}{
		{sample, 0, 0, 0}, {sample, 1, 0, 0}, {sample, 2, 0, 1}, {sample, 3, 0, 2}, {sample, 4, 1, 0}, {sample, 5, 1, 1}, {sample, 6, 1, 2},
		{"", 0, 0, 0}, {"a", 1, 0, 1}, {"a\n", 1, 0, 1}, {"a\n", 2, 1, 0},
		{"a\r\n", 1, 0, 1}, {"a\r\n", 2, 0, 2}, {"a\r\n", 3, 1, 0},
		{"a\r\r\n", 2, 1, 0}, {"a\r\r\n", 3, 1, 1}, {"a\r\r\n", 4, 2, 0},
		{"b\u2028c", 1, 0, 1}, {"b\u2028c", 2, 0, 1}, {"b\u2028c", 3, 0, 1}, {"b\u2028c", 4, 1, 0}, {"b\u2028c", 5, 1, 1},
		{"\u0085\u0085", 1, 0, 0}, {"\u0085\u0085", 2, 1, 0}, {"\u0085\u0085", 3, 1, 0}, {"\u0085\u0085", 4, 2, 0},
		{"\n\U0001F600\n", 3, 1, 0}, {"\n\U0001F600\n", 4, 1, 0}, {"\n\U0001F600\n", 5, 1, 1}, {"\n\U0001F600\n", 6, 2, 0},
		{"\xE2\x80\n\xA8", 1, 0, 1}, {"\xE2\x80\n\xA8", 2, 0, 2}, {"\xE2\x80\n\xA8", 3, 1, 0}, {"\xE2\x80\n\xA8", 4, 1, 1},
	} {
		if got, e := lines.Where(x.s, x.at); got != (api.Spot{Line: x.line, Column: x.column}) || e != api.OK {
			t.Errorf("Where(%q, %d) = %v, %d", x.s, x.at, got, e)
		}
	}
	for _, s := range []string{sample, "", "\n", "a\r"} {
		for _, at := range []int{-1, len(s) + 1, math.MinInt, math.MaxInt} {
			if got, e := lines.Where(s, at); got != (api.Spot{}) || e != api.ErrRange {
				t.Errorf("Where(%q, %d) = %v, %d", s, at, got, e)
			}
		}
	}
}

// P4.4: the row of the examples, the ends of pieces, and lines and columns that are none.
func TestPlace(t *testing.T) {
	for _, x := range []struct {
		s                string
		line, column, at int
		e                api.Errno
	}{
		{sample, 0, 0, 0, api.OK}, {sample, 0, 1, 2, api.OK}, {sample, 0, 2, 0, api.ErrRange},
		{sample, 1, 0, 4, api.OK}, {sample, 1, 1, 5, api.OK}, {sample, 1, 2, 6, api.OK}, {sample, 1, 3, 0, api.ErrRange},
		{sample, 2, 0, 0, api.ErrRange}, {sample, 0, -1, 0, api.ErrRange}, {sample, 1, -1, 0, api.ErrRange}, {sample, -1, 0, 0, api.ErrRange}, {sample, -1, -1, 0, api.ErrRange},
		{sample, 0, math.MaxInt, 0, api.ErrRange}, {sample, 1, math.MaxInt, 0, api.ErrRange}, {sample, 1, math.MinInt, 0, api.ErrRange},
		{sample, math.MaxInt, 0, 0, api.ErrRange}, {sample, math.MinInt, 0, 0, api.ErrRange}, {sample, math.MaxInt, math.MaxInt, 0, api.ErrRange},
		{"", 0, 0, 0, api.OK}, {"", 0, 1, 0, api.ErrRange}, {"", 1, 0, 0, api.ErrRange},
		{"\n", 0, 0, 0, api.OK}, {"\n", 0, 1, 0, api.ErrRange}, {"\n", 1, 0, 1, api.OK}, {"\n", 1, 1, 0, api.ErrRange},
		{"b\u2028c", 0, 1, 1, api.OK}, {"b\u2028c", 0, 2, 0, api.ErrRange}, {"b\u2028c", 1, 1, 5, api.OK},
		{"\u0085\xFF\u0085", 1, 0, 2, api.OK}, {"\u0085\xFF\u0085", 1, 1, 3, api.OK}, {"\u0085\xFF\u0085", 2, 0, 5, api.OK},
		{"\xE2\x80\r\xA8", 0, 2, 2, api.OK}, {"\xE2\x80\r\xA8", 1, 1, 4, api.OK},
	} {
		at, e := lines.Place(x.s, api.Spot{Line: x.line, Column: x.column})
		if at != x.at || e != x.e {
			t.Errorf("Place(%q, %d %d) = %d, %d", x.s, x.line, x.column, at, e)
		}
	}
}

// R7: left early behind each line, and gone through again; within itself, too.
func TestAllAgain(t *testing.T) {
	s := "a\r\n\u2028\xFF\rb\n\u0085"
	whole := collect(s)
	all := lines.All(s)
	for stop := range len(whole) + 1 {
		var got []line
		for piece, width := range all {
			if len(got) == stop {
				break
			}
			got = append(got, line{piece.From, piece.To, width})
		}
		if !slices.Equal(got, whole[:stop]) {
			t.Errorf("left behind %d lines: %v", stop, got)
		}
	}
	n := 0
	for range all {
		for range all {
			n++
		}
	}
	if n != len(whole)*len(whole) {
		t.Errorf("within itself %d lines", n)
	}
}

// R7: behind a yield that answers false nothing more is told.
func TestAllLeft(t *testing.T) {
	for _, s := range []string{"", "a", "a\n", "\n\n", "a\r\nb\rc"} {
		n := 0
		lines.All(s)(func(api.Piece, int) bool {
			n++
			return false
		})
		if n != 1 {
			t.Errorf("All(%q) told %d lines where one was wanted", s, n)
		}
	}
}

// R5: two answers share nothing, there is no room behind an answer's end, and none keeps the text.
func TestSplitIsNew(t *testing.T) {
	s := strings.Repeat("line\r\n", 50) + "last"
	a, b := lines.Split(s), lines.Split(s)
	if cap(a) != len(a) {
		t.Errorf("room for %d lines behind the last one", cap(a)-len(a))
	}
	a[0], a[50] = "", ""
	if b[0] != "line\r\n" || b[50] != "last" {
		t.Errorf("two answers share memory: %q, %q", b[0], b[50])
	}
	from := uintptr(unsafe.Pointer(unsafe.StringData(s)))
	for i, x := range b {
		at := uintptr(unsafe.Pointer(unsafe.StringData(x)))
		if at >= from && at < from+uintptr(len(s)) {
			t.Fatalf("line %d keeps the text", i)
		}
	}
}
