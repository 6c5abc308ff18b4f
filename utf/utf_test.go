package utf_test

import (
	"iter"
	"math"
	"slices"
	"strings"
	"testing"

	"vellum/api"
	"vellum/utf"
)

type placed struct {
	at int
	r  rune
}

func collect(seq iter.Seq2[int, rune]) []placed {
	var l []placed
	for at, r := range seq {
		l = append(l, placed{at, r})
	}
	return l
}

// The text of the chapter's examples.
const sample = "A\xC3\xA9\xFF"

// P2.1: the rows of the examples, and each right one and wrong kind alone.
func TestFirstAndLast(t *testing.T) {
	for _, x := range []struct {
		s           string
		first, last char
	}{
		{"", char{}, char{}},
		{"\xC3\xA9A", char{0, 2, 0xE9, true}, char{0, 1, 'A', true}},
		{"A\xC3\xA9", char{0, 1, 'A', true}, char{0, 2, 0xE9, true}},
		{"\xC3A", char{0, 1, 0xFFFD, false}, char{0, 1, 'A', true}},
		{"\xC3", char{0, 1, 0xFFFD, false}, char{0, 1, 0xFFFD, false}},
		{"\xA9", char{0, 1, 0xFFFD, false}, char{0, 1, 0xFFFD, false}},
		{"\xEF\xBF\xBD", char{0, 3, 0xFFFD, true}, char{0, 3, 0xFFFD, true}},
		{"\xE2\x82", char{0, 1, 0xFFFD, false}, char{0, 1, 0xFFFD, false}},
		{"\xF0\x9F\x98\x80", char{0, 4, 0x1F600, true}, char{0, 4, 0x1F600, true}},
		{"\xED\xA0\x80", char{0, 1, 0xFFFD, false}, char{0, 1, 0xFFFD, false}},
		{"\x00", char{0, 1, 0, true}, char{0, 1, 0, true}},
		{"\xF0\x9F\x98\x80\x80", char{0, 4, 0x1F600, true}, char{0, 1, 0xFFFD, false}},
		{"\xC3\xA9\xA9\xA9\xA9", char{0, 2, 0xE9, true}, char{0, 1, 0xFFFD, false}},
	} {
		if r, width, right := utf.First(x.s); (char{0, width, r, right}) != x.first {
			t.Errorf("First of %s= %x, %d, %v", hex(x.s), r, width, right)
		}
		if r, width, right := utf.Last(x.s); (char{0, width, r, right}) != x.last {
			t.Errorf("Last of %s= %x, %d, %v", hex(x.s), r, width, right)
		}
	}
	for _, s := range rightOnes {
		if _, width, right := utf.First(s + "x"); width != len(s) || !right {
			t.Errorf("First of %sx: %d, %v", hex(s), width, right)
		}
		if _, width, right := utf.Last("x" + s); width != len(s) || !right {
			t.Errorf("Last of x %s: %d, %v", hex(s), width, right)
		}
	}
	for _, s := range wrongKinds {
		if r, width, right := utf.First(s + "x"); r != 0xFFFD || width != 1 || right {
			t.Errorf("First of %sx: %x, %d, %v", hex(s), r, width, right)
		}
		if r, width, right := utf.Last("x" + s); r != 0xFFFD || width != 1 || right {
			t.Errorf("Last of x %s: %x, %d, %v", hex(s), r, width, right)
		}
	}
}

// P2.2: the rows of the examples; wrong bytes at the beginning, within and at the end.
func TestCountRunesAndMend(t *testing.T) {
	for _, x := range []struct {
		s     string
		runes []rune
		mend  string
	}{
		{"", nil, ""},
		{"abc", []rune{'a', 'b', 'c'}, "abc"},
		{"\xE2\x82A", []rune{0xFFFD, 0xFFFD, 'A'}, "\uFFFD\uFFFDA"},
		{"\xED\xA0\x80", []rune{0xFFFD, 0xFFFD, 0xFFFD}, "\uFFFD\uFFFD\uFFFD"},
		{"\xF4\x90\x80\x80", []rune{0xFFFD, 0xFFFD, 0xFFFD, 0xFFFD}, "\uFFFD\uFFFD\uFFFD\uFFFD"},
		{"\xC0\x80", []rune{0xFFFD, 0xFFFD}, "\uFFFD\uFFFD"},
		{sample, []rune{'A', 0xE9, 0xFFFD}, "A\xC3\xA9\xEF\xBF\xBD"},
		{"\xEF\xBF\xBD\xEF\xBF", []rune{0xFFFD, 0xFFFD, 0xFFFD}, "\uFFFD\uFFFD\uFFFD"},
	} {
		if got := utf.Count(x.s); got != len(x.runes) {
			t.Errorf("Count of %s= %d", hex(x.s), got)
		}
		if got := utf.Runes(x.s); !slices.Equal(got, x.runes) {
			t.Errorf("Runes of %s= %x", hex(x.s), got)
		}
		if got := utf.Mend(x.s); got != x.mend {
			t.Errorf("Mend of %s= %s", hex(x.s), hex(got))
		}
	}
	for _, wrong := range wrongKinds {
		mend := strings.Repeat("\uFFFD", len(wrong))
		if got := utf.Mend(wrong + "é" + wrong + "€" + wrong); got != mend+"é"+mend+"€"+mend {
			t.Errorf("Mend around %s= %s", hex(wrong), hex(got))
		}
		if got := utf.Count(wrong + "é" + wrong + "€" + wrong); got != 3*len(wrong)+2 {
			t.Errorf("Count around %s= %d", hex(wrong), got)
		}
	}
}

// P2.2: the row of the examples; numbers that are no runes that may be.
func TestEncode(t *testing.T) {
	for _, x := range []struct {
		l    []rune
		want string
	}{
		{nil, ""},
		{[]rune{}, ""},
		{[]rune{0x41, 0xE9, 0xD800, -1, 0x110000, 0x10FFFF}, "A\xC3\xA9\xEF\xBF\xBD\xEF\xBF\xBD\xEF\xBF\xBD\xF4\x8F\xBF\xBF"},
		{[]rune{0, 0x7F, 0x80, 0x7FF, 0x800, 0xFFFF, 0x10000}, "\x00\x7F\xC2\x80\xDF\xBF\xE0\xA0\x80\xEF\xBF\xBF\xF0\x90\x80\x80"},
		{[]rune{0xD7FF, 0xE000, 0xFFFD}, "\xED\x9F\xBF\xEE\x80\x80\xEF\xBF\xBD"},
		{[]rune{0xDBFF, 0xDC00, 0xDFFF}, "\uFFFD\uFFFD\uFFFD"},
		{[]rune{math.MinInt32, -0x10FFFF, math.MaxInt32}, "\uFFFD\uFFFD\uFFFD"},
	} {
		if got := utf.Encode(x.l...); got != x.want {
			t.Errorf("Encode(%x) = %s", x.l, hex(got))
		}
	}
	if utf.Encode() != "" {
		t.Error("Encode of nothing")
	}
}

// P2.2 and P2.7: each rune that may be goes there and back by the table, each other number comes to FFFD.
func TestEncodeOfEachRune(t *testing.T) {
	for r := rune(-2); r <= 0x110001; r++ {
		s := utf.Encode(r)
		want := r
		if r < 0 || r > 0x10FFFF || r >= 0xD800 && r <= 0xDFFF {
			want = 0xFFFD
		}
		if !rightSequence(s) || numberOf(s) != want || !slices.Equal(utf.Runes(s), []rune{want}) {
			t.Fatalf("Encode(%x) = %s", r, hex(s))
		}
	}
}

// P2.3: the rows of the examples, and numbers that are no places.
func TestAtOfAndBegins(t *testing.T) {
	for char, want := range []int{0, 1, 3, 4} {
		checkAt(t, sample, char, want, api.OK)
	}
	for at, want := range []int{0, 1, 1, 2, 3} {
		checkOf(t, sample, at, want, api.OK)
	}
	for at, want := range []bool{true, true, false, true, true} {
		checkBegins(t, sample, at, want)
	}
	checkAt(t, "", 0, 0, api.OK)
	checkOf(t, "", 0, 0, api.OK)
	checkBegins(t, "", 0, true)
	for _, s := range []string{"", "A", sample, "\xC3", "\xF0\x9F\x98\x80"} {
		for _, n := range []int{-1, -2, math.MinInt, math.MinInt + 1, len(s) + 1, math.MaxInt - 1, math.MaxInt} {
			checkAt(t, s, n, 0, api.ErrRange)
			checkOf(t, s, n, 0, api.ErrRange)
			checkBegins(t, s, n, false)
		}
	}
	checkAt(t, sample, 4, 0, api.ErrRange) // a byte place, but no character place
}

func checkAt(t *testing.T, s string, char, want int, code api.Errno) {
	t.Helper()
	if got, e := utf.At(s, char); got != want || e != code {
		t.Errorf("At(%s, %d) = %d, %d; not %d, %d", hex(s), char, got, e, want, code)
	}
}

func checkOf(t *testing.T, s string, at, want int, code api.Errno) {
	t.Helper()
	if got, e := utf.Of(s, at); got != want || e != code {
		t.Errorf("Of(%s, %d) = %d, %d; not %d, %d", hex(s), at, got, e, want, code)
	}
}

func checkBegins(t *testing.T, s string, at int, want bool) {
	t.Helper()
	if got := utf.Begins(s, at); got != want {
		t.Errorf("Begins(%s, %d) = %v", hex(s), at, got)
	}
}

// P2.4: the rows of the examples, and the empty text.
func TestAllBackAndWrong(t *testing.T) {
	forward := []placed{{0, 'A'}, {1, 0xE9}, {3, 0xFFFD}}
	if got := collect(utf.All(sample)); !slices.Equal(got, forward) {
		t.Errorf("All = %v", got)
	}
	slices.Reverse(forward)
	if got := collect(utf.Back(sample)); !slices.Equal(got, forward) {
		t.Errorf("Back = %v", got)
	}
	if got := slices.Collect(utf.Wrong(sample)); !slices.Equal(got, []int{3}) {
		t.Errorf("Wrong = %v", got)
	}
	if got := slices.Collect(utf.Wrong("\xEF\xEF\xBF\xBD\xEF\xBF\xFF")); !slices.Equal(got, []int{0, 4, 5, 6}) {
		t.Errorf("Wrong around a right FFFD = %v", got)
	}
	if len(collect(utf.All(""))) != 0 || len(collect(utf.Back(""))) != 0 || len(slices.Collect(utf.Wrong(""))) != 0 {
		t.Error("an iterator tells something of the empty text")
	}
}

// R7 of P2.4: a walk may be left at each place, and gone through again; one may stand within another.
func TestWalksMayBeLeft(t *testing.T) {
	s := sample + "\x80€\xC0"
	for _, seq := range []iter.Seq2[int, rune]{utf.All(s), utf.Back(s)} {
		whole := collect(seq)
		for leave := 1; leave <= len(whole); leave++ {
			var part []placed
			for at, r := range seq {
				if part = append(part, placed{at, r}); len(part) == leave {
					break
				}
			}
			if !slices.Equal(part, whole[:leave]) {
				t.Errorf("left behind %d: %v", leave, part)
			}
		}
		pairs := 0
		for range seq {
			for range seq {
				pairs++
			}
		}
		if pairs != len(whole)*len(whole) || !slices.Equal(collect(seq), whole) {
			t.Errorf("gone through again: %d pairs", pairs)
		}
	}
	wrong := utf.Wrong(s)
	for _, want := range [][]int{{3}, {3, 4}, {3, 4, 8}} {
		var part []int
		for at := range wrong {
			if part = append(part, at); len(part) == len(want) {
				break
			}
		}
		if !slices.Equal(part, want) {
			t.Errorf("Wrong left behind %d: %v", len(want), part)
		}
	}
}

// P2.5: the rows of the examples, each proper beginning alone and behind others.
func TestPending(t *testing.T) {
	for _, x := range []struct {
		s    string
		want int
	}{
		{"", 0}, {"A", 0}, {"\xE2\x82", 2}, {"A\xC3", 1}, {"\xC3\xA9", 0}, {"\xE0\x80", 0}, {"\xF0\x9F\x98", 3}, {"\xC0", 0},
		{"\xF0\x9F\x98\x80", 0}, {"\xF0\x9F\x98\x80\xF0", 1}, {"\xE2\x82\xE2\x82", 2}, {"\xE2\x82A", 0},
		{"\xED\xA0", 0}, {"\xED\x9F", 2}, {"\xE0\xA0", 2}, {"\xF0\x8F", 0}, {"\xF0\x90", 2}, {"\xF4\x8F", 2}, {"\xF4\x90", 0},
		{"\xF0\x90\x80", 3}, {"\xF0\x8F\x80", 0}, {"\xF5", 0}, {"\xF4\xF4\x8F\xBF", 3}, {"\x80", 0},
	} {
		for _, ahead := range []string{"", "A", "é", "😀", "\xFF", "\xC0\x80"} {
			if got := utf.Pending(ahead + x.s); got != x.want {
				t.Errorf("Pending(%s) = %d, not %d", hex(ahead+x.s), got, x.want)
			}
		}
	}
}

// P2.5: the rows of the examples, beginnings that are none, ends that are cut short.
func TestCloses(t *testing.T) {
	for _, x := range []struct {
		pending, next string
		want          int
	}{
		{"\xE2\x82", "\xACA", 1}, {"\xE2", "\x82\xAC", 2}, {"\xE2", "\x82", 0}, {"\xC3", "A", 0}, {"A", "A", 0}, {"\xF0", "\x9F\x98\x80", 3},
		{"", "", 0}, {"", "A", 0}, {"", "\xC3\xA9", 0}, {"\xC3", "", 0},
		{"\xC3", "\xA9", 1}, {"\xC3", "\xA9\xA9\xA9", 1}, {"\xF0\x9F", "\x98\x80\x80", 2}, {"\xF0\x9F\x98", "\x80", 1}, {"\xF0\x9F\x98", "A\x80", 0},
		{"A\xC3", "\xA9", 0}, {"\xC3\xA9", "\xA9", 0}, {"\xC3\xA9\xC3", "\xA9", 0}, {"\xF0\x9F\x98\x80", "\x80", 0}, {"\xF0\x9F\x98\x80\xC3", "\xA9", 0},
		{"\x80", "\x80", 0}, {"\xC0", "\x80", 0}, {"\xE0", "\x80\x80", 0}, {"\xE0", "\xA0\x80", 2}, {"\xED", "\xA0\x80", 0}, {"\xED", "\x9F\xBF", 2},
		{"\xF4", "\x90\x80\x80", 0}, {"\xF4", "\x8F\xBF\xBF", 3}, {"\xF5", "\x80\x80\x80", 0}, {"\xFF", "A", 0}, {"\xFFA", "A", 0},
		{"\xE2", "\x82A\xAC", 0}, {"\xE2", "A\x82\xAC", 0},
	} {
		if got := utf.Closes(x.pending, x.next); got != x.want {
			t.Errorf("Closes(%s, %s) = %d, not %d", hex(x.pending), hex(x.next), got, x.want)
		}
	}
}

// R5: what is handed in stays, the room behind its end too; answers share nothing.
func TestNothingIsShared(t *testing.T) {
	room := []rune{'a', 0xD800, 'c', 'd'}
	if utf.Encode(room[:2]...) != "a\uFFFD" || !slices.Equal(room, []rune{'a', 0xD800, 'c', 'd'}) {
		t.Error("Encode changed what it was handed")
	}
	one, two := utf.Runes(sample), utf.Runes(sample)
	_ = append(one[:1], 'x', 'y', 'z')
	if !slices.Equal(two, []rune{'A', 0xE9, 0xFFFD}) {
		t.Error("two answers of Runes share memory")
	}
	text := utf.Encode(room[2:]...)
	room[2] = 'x'
	if text != "cd" {
		t.Error("Encode keeps what it was handed")
	}
}
