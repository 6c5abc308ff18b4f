package lines_test

import (
	"math"
	"slices"
	"strings"
	"testing"

	"vellum/api"
	"vellum/lines"
)

// P4.1: of all texts, at each place and at what is none.
func TestEndEverywhere(t *testing.T) {
	for _, s := range manyTexts() {
		for _, at := range []int{math.MinInt, -1, len(s), len(s) + 1, math.MaxInt} {
			if width, begins := lines.End(s, at); width != 0 || begins {
				t.Fatalf("End(%q, %d) = %d, %v", s, at, width, begins)
			}
		}
		for at := range len(s) {
			if width, begins := lines.End(s, at); width != toldEnd(s, at) || begins != (width > 0) {
				t.Fatalf("End(%q, %d) = %d, %v", s, at, width, begins)
			}
		}
	}
}

// P4.1: each two bytes, alone and behind each byte that begins a line end of three.
func TestEndOfAllBytes(t *testing.T) {
	for a := range 256 {
		for b := range 256 {
			two := string([]byte{byte(a), byte(b)})
			for _, s := range []string{two, "\xE2" + two, two + "\xA9", "\xE2\x80" + two} {
				for at := range len(s) {
					if width, _ := lines.End(s, at); width != toldEnd(s, at) {
						t.Fatalf("End(%q, %d) = %d", s, at, width)
					}
				}
			}
		}
	}
}

// P4.2, P4.5: of all texts the lines, by each call that tells them.
func TestLinesEverywhere(t *testing.T) {
	for _, s := range manyTexts() {
		want := toldLines(s)
		split := lines.Split(s)
		if lines.Count(s) != len(want) || len(split) != len(want) || strings.Join(split, "") != s {
			t.Fatalf("Count(%q) = %d, Split %q", s, lines.Count(s), split)
		}
		n := 0
		for piece, width := range lines.All(s) {
			if n == len(want) {
				t.Fatalf("All(%q) tells more than %d lines", s, n)
			}
			x := want[n]
			if piece != (api.Piece{From: x.from, To: x.to}) || width != x.width || split[n] != s[x.from:x.to+x.width] {
				t.Fatalf("All(%q): line %d is %v, %d; Split has %q", s, n, piece, width, split[n])
			}
			if p, w, e := lines.Line(s, n); p != piece || w != width || e != api.OK {
				t.Fatalf("Line(%q, %d) = %v, %d, %d", s, n, p, w, e)
			}
			checkPiece(t, s, piece, width, n == len(want)-1)
			n++
		}
		if n != len(want) {
			t.Fatalf("All(%q) tells %d lines", s, n)
		}
		for _, none := range []int{math.MinInt, -1, n, n + 1, math.MaxInt} {
			if p, w, e := lines.Line(s, none); p != (api.Piece{}) || w != 0 || e != api.ErrRange {
				t.Fatalf("Line(%q, %d) = %v, %d, %d", s, none, p, w, e)
			}
		}
	}
}

// checkPiece: in a piece no line end begins, and behind it stands the line's own, but at the last line.
func checkPiece(t *testing.T, s string, piece api.Piece, width int, last bool) {
	t.Helper()
	for at := piece.From; at < piece.To; at++ {
		if _, begins := lines.End(s, at); begins {
			t.Fatalf("in the piece %v of %q a line end begins at %d", piece, s, at)
		}
	}
	if n, begins := lines.End(s, piece.To); n != width || begins == last {
		t.Fatalf("behind the piece %v of %q: %d, %v", piece, s, n, begins)
	}
}

// P4.3, P4.5: of all texts, at each place and at what is none; it rises with the place.
func TestWhereEverywhere(t *testing.T) {
	for _, s := range manyTexts() {
		var ahead api.Spot
		for at, want := range toldSpots(s) {
			got, e := lines.Where(s, at)
			if got != want || e != api.OK {
				t.Fatalf("Where(%q, %d) = %v, %d", s, at, got, e)
			}
			if got.Line < ahead.Line || got.Line == ahead.Line && got.Column < ahead.Column {
				t.Fatalf("Where(%q, %d) = %v behind %v", s, at, got, ahead)
			}
			ahead = got
		}
		for _, at := range []int{math.MinInt, -1, len(s) + 1, math.MaxInt} {
			if got, e := lines.Where(s, at); got != (api.Spot{}) || e != api.ErrRange {
				t.Fatalf("Where(%q, %d) = %v, %d", s, at, got, e)
			}
		}
	}
}

// P4.4, P4.5: of all texts each column of each piece, and those that are none; Place of Where of such a place is that place.
func TestPlaceEverywhere(t *testing.T) {
	for _, s := range manyTexts() {
		begins := charPlaces(s)
		for n, x := range toldLines(s) {
			column := 0
			for _, at := range begins {
				if at < x.from || at > x.to {
					continue
				}
				spot := api.Spot{Line: n, Column: column}
				if got, e := lines.Place(s, spot); got != at || e != api.OK {
					t.Fatalf("Place(%q, %v) = %d, %d", s, spot, got, e)
				}
				where, _ := lines.Where(s, at)
				if got, e := lines.Place(s, where); got != at || e != api.OK {
					t.Fatalf("Place(%q, Where %d = %v) = %d, %d", s, at, where, got, e)
				}
				column++
			}
			for _, none := range []int{math.MinInt, -1, column, column + 1, math.MaxInt} {
				checkNoPlace(t, s, api.Spot{Line: n, Column: none})
			}
		}
		for _, none := range []int{math.MinInt, -1, len(toldLines(s)), math.MaxInt} {
			checkNoPlace(t, s, api.Spot{Line: none})
		}
	}
}

func checkNoPlace(t *testing.T, s string, p api.Spot) {
	t.Helper()
	if got, e := lines.Place(s, p); got != 0 || e != api.ErrRange {
		t.Fatalf("Place(%q, %v) = %d, %d", s, p, got, e)
	}
}

// P4.5: behind a byte 0A the lines of two texts are those of the one, but for its last, and those of the other.
func TestLinesJoined(t *testing.T) {
	short := append(textsOf("\r\na", 4), textsOf("\xE2\x80\xA8\n\xC2\x85", 3)...)
	for _, x := range short {
		a := x + "\n"
		ahead := lines.Split(a)
		if ahead[len(ahead)-1] != "" {
			t.Fatalf("Split(%q) = %q", a, ahead)
		}
		for _, b := range short {
			want := append(slices.Clone(ahead[:len(ahead)-1]), lines.Split(b)...)
			if got := lines.Split(a + b); !slices.Equal(got, want) {
				t.Fatalf("Split(%q) = %q", a+b, got)
			}
		}
	}
}

// R1: a text as long as one may be, of line ends alone, and without any; all calls go through it once.
func TestLongTexts(t *testing.T) {
	for _, x := range []struct {
		piece string
		lines int
	}{{"\n", api.MaxText}, {"\r\n", api.MaxText / 2}, {"\xE2\x80\xA8\r", api.MaxText / 2}, {"ab\xFF\xC3\xA9", 0}} {
		n := api.MaxText / len(x.piece)
		s := strings.Repeat(x.piece, n)
		want := len(toldLines(s))
		if x.lines == 0 && want != 1 || x.lines > 0 && want != x.lines+1 {
			t.Fatalf("%q: %d lines told", x.piece, want)
		}
		if got := lines.Count(s); got != want {
			t.Errorf("Count of %d times %q = %d", n, x.piece, got)
		}
		last := toldSpots(s)[len(s)]
		if got, e := lines.Where(s, len(s)); got != last || e != api.OK {
			t.Errorf("Where at the end of %d times %q = %v, %d", n, x.piece, got, e)
		}
		if at, e := lines.Place(s, last); at != len(s) || e != api.OK {
			t.Errorf("Place of the end of %d times %q = %d, %d", n, x.piece, at, e)
		}
		if got := lines.Split(s); len(got) != want || strings.Join(got, "") != s {
			t.Errorf("Split of %d times %q: %d lines", n, x.piece, len(got))
		}
	}
}
