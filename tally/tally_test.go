package tally_test

import (
	"math"
	"slices"
	"strings"
	"testing"
	"unsafe"

	"vellum/api"
	"vellum/tally"
)

// long is a tally of a text of which the middle is not known.
func long(bytes, chars, lines int, first, last string) api.Tally {
	return api.Tally{Bytes: bytes, Chars: chars, Lines: lines, Head: first, Tail: last}
}

// P3.1: the rows of the examples, and what is a line end and what is none.
func TestOf(t *testing.T) {
	for _, x := range []struct {
		s string
		t api.Tally
	}{
		{"", api.Tally{}},
		{"a", long(1, 1, 0, "a", "a")},
		{"ab", long(2, 2, 0, "ab", "ab")},
		{"abc", long(3, 3, 0, "abc", "abc")},
		{"abcd", long(4, 4, 0, "abc", "bcd")},
		{"abcdefgh", long(8, 8, 0, "abc", "fgh")},
		{"a\r\nb\rc", long(6, 6, 2, "a\r\n", "b\rc")},
		{"\xE2\x80\xA8", long(3, 1, 1, "\xE2\x80\xA8", "\xE2\x80\xA8")},
		{"\xE2\x80", long(2, 2, 0, "\xE2\x80", "\xE2\x80")},
		{"\xA8", long(1, 1, 0, "\xA8", "\xA8")},
		{"\xE2\x80\xA9", long(3, 1, 1, "\xE2\x80\xA9", "\xE2\x80\xA9")},
		{"\xC2\x85", long(2, 1, 1, "\xC2\x85", "\xC2\x85")},
		{"\x85", long(1, 1, 0, "\x85", "\x85")},
		{"\n\r", long(2, 2, 2, "\n\r", "\n\r")},
		{"\r\n", long(2, 2, 1, "\r\n", "\r\n")},
		{"\r\r\n\n", long(4, 4, 3, "\r\r\n", "\r\n\n")},
		{"\r\xC2\x85\n", long(4, 3, 3, "\r\xC2\x85", "\xC2\x85\n")},
		{"\v\f\x1C\x1D\x1E", long(5, 5, 0, "\v\f\x1C", "\x1C\x1D\x1E")},
		{"\U0001F600\xFF", long(5, 2, 0, "\xF0\x9F\x98", "\x98\x80\xFF")},
	} {
		if got := tally.Of(x.s); got != x.t {
			t.Errorf("Of(%q) = %#v", x.s, got)
		}
	}
}

// P3.2: tallies that may be, some of which no text has.
func TestCheckMayBe(t *testing.T) {
	for _, x := range []api.Tally{
		{},
		long(1, 1, 1, "\n", "\n"),
		long(4, 4, 0, "abc", "bcd"),
		long(4, 1, 0, "\xF0\x9F\x98", "\x9F\x98\x80"),
		long(6, 2, 2, "\u2028", "\u2029"),
		long(6, 6, 0, "abc", "xyz"),
		long(7, 2, 0, "abc", "xyz"),
		long(7, 7, 7, "abc", "xyz"),
		long(7, 3, 0, "\n\n\n", "\n\n\n"),
		long(9, 3, 1, "abc", "xyz"),
		long(8, 2, 2, "\x80\x80\x80", "\xFF\xFF\xFF"),
		long(math.MaxInt, math.MaxInt, math.MaxInt, "abc", "xyz"),
		long(math.MaxInt, math.MaxInt/4+1, 0, "abc", "xyz"),
		long(math.MaxInt-3, math.MaxInt/4, 0, "abc", "xyz"),
	} {
		if e := tally.Check(x); e != api.OK {
			t.Errorf("Check(%#v) = %d", x, e)
		}
	}
}

// mayNot is tallies that may not be, each for one reason alone, as far as one can be had without another.
func mayNot() []api.Tally {
	return []api.Tally{
		// Numbers below 0.
		{Bytes: -1},
		{Chars: -1},
		{Lines: -1},
		long(9, 9, -1, "abc", "xyz"),
		long(9, 9, math.MinInt, "abc", "xyz"),
		long(9, -1, 0, "abc", "xyz"),
		long(9, math.MinInt, 0, "abc", "xyz"),
		long(-1, -1, -1, "", ""),
		long(math.MinInt, 0, 0, "", ""),
		long(math.MinInt, math.MinInt, math.MinInt, "", ""),
		// More line ends than characters.
		long(9, 3, 4, "abc", "xyz"),
		long(math.MaxInt, math.MaxInt-1, math.MaxInt, "abc", "xyz"),
		long(4, 1, 2, "\xF0\x9F\x98", "\x9F\x98\x80"),
		// More characters than bytes.
		long(4, 5, 0, "abc", "bcd"),
		long(7, 8, 0, "abc", "xyz"),
		long(7, math.MaxInt, 0, "abc", "xyz"),
		// More bytes than four a character.
		long(9, 2, 0, "abc", "xyz"),
		long(7, 1, 0, "abc", "xyz"),
		long(7, 0, 0, "abc", "xyz"),
		long(math.MaxInt, math.MaxInt/4, 0, "abc", "xyz"),
		long(math.MaxInt-2, math.MaxInt/4, 0, "abc", "xyz"),
		// Ends that are too short, too long.
		long(9, 9, 0, "ab", "xyz"),
		long(9, 9, 0, "abc", "yz"),
		long(9, 9, 0, "", "xyz"),
		long(9, 9, 0, "abc", ""),
		long(9, 9, 0, "abcd", "xyz"),
		long(9, 9, 0, "abc", "wxyz"),
		long(2, 2, 0, "abc", "abc"),
		long(2, 2, 0, "a", "ab"),
		{Head: "a"},
		{Tail: "a"},
		// Ends that are all of the text, and do not fit each other.
		long(1, 1, 0, "a", "b"),
		long(3, 3, 0, "abc", "abd"),
		long(4, 4, 0, "abc", "xcd"),
		long(5, 5, 0, "abc", "xde"),
		// Another number of characters, or of line ends, than the text has that is known.
		long(3, 2, 0, "abc", "abc"),
		long(1, 0, 0, "a", "a"),
		long(6, 5, 0, "abc", "xyz"),
		long(6, 6, 1, "abc", "xyz"),
		long(6, 6, 0, "abc", "xy\n"),
		long(6, 6, 3, "ab\r", "\nxy"),
		long(4, 4, 0, "\xF0\x9F\x98", "\x9F\x98\x80"),
		long(4, 1, 0, "\xF0\x9F\x98", "\x9F\x98x"),
	}
}

// P3.2, and what the other calls answer where a tally may not be (P3.3, P3.4, P3.5).
func TestMayNotBe(t *testing.T) {
	fine := tally.Of("fine")
	for _, x := range mayNot() {
		if e := tally.Check(x); e != api.ErrTally {
			t.Errorf("Check(%#v) = %d", x, e)
		}
		for _, p := range [][2]api.Tally{{x, fine}, {fine, x}, {x, x}, {x, {}}, {{}, x}} {
			if got, e := tally.Join(p[0], p[1]); e != api.ErrTally || got != (api.Tally{}) {
				t.Errorf("Join(%#v, %#v) = %#v, %d", p[0], p[1], got, e)
			}
			if chars, lines, e := tally.Seam(p[0], p[1]); e != api.ErrTally || chars != 0 || lines != 0 {
				t.Errorf("Seam(%#v, %#v) = %d, %d, %d", p[0], p[1], chars, lines, e)
			}
			if got, e := tally.Sum(p[:]...); e != api.ErrTally || got != (api.Tally{}) {
				t.Errorf("Sum(%#v, %#v) = %#v, %d", p[0], p[1], got, e)
			}
		}
		if got, e := tally.Sum(x); e != api.ErrTally || got != (api.Tally{}) {
			t.Errorf("Sum(%#v) = %#v, %d", x, got, e)
		}
	}
}

// P3.3: the rows of the examples, each kind of character that a seam makes, and what makes none.
func TestSeam(t *testing.T) {
	for _, x := range []struct {
		a, b         string
		chars, lines int
	}{
		{"", "", 0, 0},
		{"abc", "def", 0, 0},
		{"\xE2\x80", "\xA8", -2, 1},
		{"\xE2", "\x80\xA8", -2, 1},
		{"\xE2\x80", "\xA9\xA9", -2, 1},
		{"\xE2\x80", "\xA7", -2, 0},
		{"\xE2\x80", "\xAA", -2, 0},
		{"\xE2\x80\xA8", "\xA8", 0, 0},
		{"\xC2", "\x85", -1, 1},
		{"\xC2", "\x84", -1, 0},
		{"\xC2", "\x86", -1, 0},
		{"\xC2", "\xC2\x85", 0, 0},
		{"abc\xC3", "\xA9def", -1, 0},
		{"\xF0\x9F\x98", "\x80x", -3, 0},
		{"\xF0\x9F", "\x98\x80x", -3, 0},
		{"\xF0", "\x9F\x98\x80x", -3, 0},
		{"\xF0\x9F\x98", "x", 0, 0},
		{"\xF0\x9F", "\x98", 0, 0},
		{"\xF0\x9F", "\x98x\x80", 0, 0},
		{"\xE0", "\x80\x80", 0, 0},
		{"\xED", "\xA0\x80", 0, 0},
		{"\xF4", "\x90\x80\x80", 0, 0},
		{"a\r", "\nb", 0, -1},
		{"\r", "\n", 0, -1},
		{"\r\r", "\n\n", 0, -1},
		{"\n", "\r", 0, 0},
		{"\r", "\r", 0, 0},
		{"\n", "\n", 0, 0},
		{"\r", "", 0, 0},
		{"", "\n", 0, 0},
		{"\r", "x\n", 0, 0},
		{"\rx", "\n", 0, 0},
		{"\r\xC2", "\x85\n", -1, 1},
	} {
		a, b := tally.Of(x.a), tally.Of(x.b)
		if chars, lines, e := tally.Seam(a, b); chars != x.chars || lines != x.lines || e != api.OK {
			t.Errorf("Seam(%q, %q) = %d, %d, %d", x.a, x.b, chars, lines, e)
		}
	}
}

// P3.3: of tallies that no text has the seam is what their ends say, whatever Join makes of it.
func TestSeamOfEnds(t *testing.T) {
	for _, x := range []struct {
		a, b         api.Tally
		chars, lines int
	}{
		{long(8, 2, 0, "abc", "\xF0\x9F\x98"), tally.Of("\x80"), -3, 0},
		{long(8, 8, 0, "abc", "ab\r"), long(8, 8, 0, "\nbc", "xyz"), 0, -1},
		{long(math.MaxInt, math.MaxInt, 0, "abc", "xy\xC2"), long(math.MaxInt, math.MaxInt, 0, "\x85bc", "xyz"), -1, 1},
		{long(8, 8, 8, "abc", "xyz"), long(8, 8, 8, "abc", "xyz"), 0, 0},
	} {
		if chars, lines, e := tally.Seam(x.a, x.b); chars != x.chars || lines != x.lines || e != api.OK {
			t.Errorf("Seam(%#v, %#v) = %d, %d, %d", x.a, x.b, chars, lines, e)
		}
	}
}

// P3.4: the rows of the examples.
func TestJoin(t *testing.T) {
	for _, x := range []struct {
		a, b string
		t    api.Tally
	}{
		{"", "", api.Tally{}},
		{"\xE2\x80", "\xA8", long(3, 1, 1, "\xE2\x80\xA8", "\xE2\x80\xA8")},
		{"\xE2", "\x80\xA8", long(3, 1, 1, "\xE2\x80\xA8", "\xE2\x80\xA8")},
		{"\xE2\x80\xA8", "\xA8", long(4, 2, 1, "\xE2\x80\xA8", "\x80\xA8\xA8")},
		{"a\r", "\nb", long(4, 4, 1, "a\r\n", "\r\nb")},
		{"\xF0\x9F\x98", "\x80x", long(5, 2, 0, "\xF0\x9F\x98", "\x98\x80x")},
		{"\xF0\x9F\x98", "x", long(4, 4, 0, "\xF0\x9F\x98", "\x9F\x98x")},
		{"\xF0\x9F", "\x98", long(3, 3, 0, "\xF0\x9F\x98", "\xF0\x9F\x98")},
		{"a", "b", long(2, 2, 0, "ab", "ab")},
		{"a", "bcdef", long(6, 6, 0, "abc", "def")},
		{"abcde", "f", long(6, 6, 0, "abc", "def")},
		{"abcde", "fghij", long(10, 10, 0, "abc", "hij")},
	} {
		if got, e := tally.Join(tally.Of(x.a), tally.Of(x.b)); got != x.t || e != api.OK {
			t.Errorf("Join(%q, %q) = %#v, %d", x.a, x.b, got, e)
		}
	}
}

// P3.4, R8: sums of bytes up to the greatest int, and beyond; which of several errors is told.
func TestJoinHuge(t *testing.T) {
	most := long(math.MaxInt, math.MaxInt, 0, "abc", "xyz")
	odd := long(math.MaxInt, math.MaxInt/4+1, 0, "abc", "\xF0\x9F\x98")
	half := long(1<<62, 1<<62, 0, "abc", "xyz")
	for _, x := range []struct {
		a, b, t api.Tally
		e       api.Errno
	}{
		{long(math.MaxInt-1, math.MaxInt-1, math.MaxInt-1, "abc", "xyz"), tally.Of("\n"), long(math.MaxInt, math.MaxInt, math.MaxInt, "abc", "yz\n"), api.OK},
		{tally.Of("\n"), long(math.MaxInt-1, math.MaxInt-1, 0, "abc", "xyz"), long(math.MaxInt, math.MaxInt, 1, "\nab", "xyz"), api.OK},
		{most, api.Tally{}, most, api.OK},
		{api.Tally{}, most, most, api.OK},
		{most, tally.Of("x"), api.Tally{}, api.ErrArg},
		{tally.Of("x"), most, api.Tally{}, api.ErrArg},
		{most, most, api.Tally{}, api.ErrArg},
		{half, half, api.Tally{}, api.ErrArg},
		{half, long(1<<62-1, 1<<62-1, 0, "abc", "xyz"), long(math.MaxInt, math.MaxInt, 0, "abc", "xyz"), api.OK},
		// A tally that may not be is told ahead of a sum that is too great, that one ahead of what comes of it.
		{most, long(math.MaxInt, math.MaxInt, -1, "abc", "xyz"), api.Tally{}, api.ErrTally},
		{long(math.MaxInt, math.MaxInt, 0, "ab", "xyz"), most, api.Tally{}, api.ErrTally},
		{odd, tally.Of("\x80"), api.Tally{}, api.ErrArg},
		{long(math.MaxInt-1, math.MaxInt/4+1, 0, "abc", "\xF0\x9F\x98"), tally.Of("\x80"), api.Tally{}, api.ErrTally},
	} {
		if got, e := tally.Join(x.a, x.b); got != x.t || e != x.e {
			t.Errorf("Join(%#v, %#v) = %#v, %d", x.a, x.b, got, e)
		}
	}
}

// P3.4: of tallies that no text has what comes of them may be, or not.
func TestJoinOfNoText(t *testing.T) {
	for _, x := range []struct {
		a, b, t api.Tally
		e       api.Errno
	}{
		// Fewer characters than a fourth of the bytes.
		{long(8, 2, 0, "abc", "\xF0\x9F\x98"), tally.Of("\x80"), api.Tally{}, api.ErrTally},
		{long(8, 5, 0, "abc", "\xF0\x9F\x98"), tally.Of("\x80"), long(9, 3, 0, "abc", "\x9F\x98\x80"), api.OK},
		{long(8, 4, 0, "abc", "\xF0\x9F\x98"), tally.Of("\x80"), api.Tally{}, api.ErrTally},
		// Fewer line ends than none.
		{long(8, 8, 0, "abc", "ab\r"), long(8, 8, 0, "\nbc", "xyz"), api.Tally{}, api.ErrTally},
		{long(8, 8, 0, "abc", "ab\r"), tally.Of("\n"), long(9, 9, 0, "abc", "b\r\n"), api.OK},
		{long(8, 8, 1, "abc", "ab\r"), long(8, 8, 0, "\nbc", "xyz"), long(16, 16, 0, "abc", "xyz"), api.OK},
		// More line ends than characters.
		{long(8, 5, 5, "abc", "xy\xC2"), tally.Of("\x85"), api.Tally{}, api.ErrTally},
		{long(8, 5, 4, "abc", "xy\xC2"), tally.Of("\x85"), long(9, 5, 5, "abc", "y\xC2\x85"), api.OK},
	} {
		if got, e := tally.Join(x.a, x.b); got != x.t || e != x.e {
			t.Errorf("Join(%#v, %#v) = %#v, %d", x.a, x.b, got, e)
		}
	}
}

// P3.5: none, one, many; the first error ends it.
func TestSum(t *testing.T) {
	odd := long(8, 2, 0, "abc", "\xF0\x9F\x98")
	most := long(math.MaxInt, math.MaxInt, 0, "abc", "xyz")
	bad := api.Tally{Bytes: 1}
	x := tally.Of("x")
	for _, c := range []struct {
		l []api.Tally
		t api.Tally
		e api.Errno
	}{
		{nil, api.Tally{}, api.OK},
		{[]api.Tally{}, api.Tally{}, api.OK},
		{[]api.Tally{{}}, api.Tally{}, api.OK},
		{[]api.Tally{{}, {}, {}}, api.Tally{}, api.OK},
		{[]api.Tally{odd}, odd, api.OK},
		{[]api.Tally{most}, most, api.OK},
		{[]api.Tally{bad}, api.Tally{}, api.ErrTally},
		{[]api.Tally{tally.Of("\xF0"), tally.Of("\x9F"), tally.Of("\x98"), tally.Of("\x80")}, tally.Of("\U0001F600"), api.OK},
		{[]api.Tally{x, tally.Of("\r"), {}, tally.Of("\n"), x}, tally.Of("x\r\nx"), api.OK},
		{[]api.Tally{most, x, bad}, api.Tally{}, api.ErrArg},
		{[]api.Tally{x, bad, most, most}, api.Tally{}, api.ErrTally},
		{[]api.Tally{bad, most, most}, api.Tally{}, api.ErrTally},
		{[]api.Tally{x, x, x, bad}, api.Tally{}, api.ErrTally},
		{[]api.Tally{x, odd, tally.Of("\x80")}, api.Tally{}, api.ErrTally},
		{[]api.Tally{odd, tally.Of("\x80"), most, most}, api.Tally{}, api.ErrTally},
		{[]api.Tally{x, x, most}, api.Tally{}, api.ErrArg},
	} {
		if got, e := tally.Sum(c.l...); got != c.t || e != c.e {
			t.Errorf("Sum(%#v) = %#v, %d", c.l, got, e)
		}
	}
}

// P3.6: the rows of the examples, and places that are none.
func TestParts(t *testing.T) {
	for _, x := range []struct {
		s      string
		at     []int
		pieces []string
	}{
		{"", nil, []string{""}},
		{"", []int{0, 0}, []string{"", "", ""}},
		{"abc", nil, []string{"abc"}},
		{"abc", []int{0, 0, 3}, []string{"", "", "abc", ""}},
		{"abc", []int{1, 2}, []string{"a", "b", "c"}},
		{"abc", []int{3}, []string{"abc", ""}},
		{"h\xC3\xA9", []int{2}, []string{"h\xC3", "\xA9"}},
		{"a\r\nb", []int{2, 2}, []string{"a\r", "", "\nb"}},
	} {
		l, e := tally.Parts(x.s, x.at...)
		if e != api.OK || len(l) != len(x.pieces) {
			t.Fatalf("Parts(%q, %v) = %#v, %d", x.s, x.at, l, e)
		}
		for i, piece := range x.pieces {
			if l[i] != told(piece) {
				t.Errorf("Parts(%q, %v)[%d] = %#v", x.s, x.at, i, l[i])
			}
		}
	}
	if l, _ := tally.Parts("h\xC3\xA9", 2); l[0].Chars != 2 || l[1].Chars != 1 {
		t.Errorf("characters of two parts: %#v", l)
	}
	for _, at := range [][]int{{2, 1}, {4}, {-1}, {0, 4}, {3, 2}, {0, 1, 0}, {1, -1}, {math.MinInt}, {math.MaxInt}, {0, math.MaxInt}, {1, math.MinInt}, {-1, 0}, {4, 3}} {
		if l, e := tally.Parts("abc", at...); e != api.ErrArg || len(l) != 0 {
			t.Errorf("Parts(abc, %v) = %#v, %d", at, l, e)
		}
	}
	for _, at := range []int{-1, 1} {
		if l, e := tally.Parts("", at); e != api.ErrArg || len(l) != 0 {
			t.Errorf("Parts of the empty text, at %d = %#v, %d", at, l, e)
		}
	}
}

// R5: lists that are handed in, and the room behind their ends, stay as they are; what is answered is new.
func TestWhatIsHandedIn(t *testing.T) {
	at := []int{1, 3, 77, 78}
	l, _ := tally.Parts("abcd", at[:2]...)
	if !slices.Equal(at, []int{1, 3, 77, 78}) {
		t.Errorf("Parts changed its places: %v", at)
	}
	again, _ := tally.Parts("abcd", at[:2]...)
	l[0], l[2] = api.Tally{}, api.Tally{}
	if again[0] != told("a") || again[2] != told("d") {
		t.Errorf("two answers of Parts share memory: %#v", again)
	}
	room := []api.Tally{tally.Of("a"), tally.Of("\r"), tally.Of("x"), tally.Of("y")}
	before := slices.Clone(room)
	tally.Sum(room[:2]...)
	if !slices.Equal(room, before) {
		t.Errorf("Sum changed its tallies: %#v", room)
	}
}

// R5: a tally does not keep the text that it is of.
func TestTextIsNotKept(t *testing.T) {
	s := strings.Repeat("abcdefgh", 100)
	whole := tally.Of(s)
	parts, _ := tally.Parts(s, 400)
	joined, _ := tally.Join(api.Tally{Bytes: 9, Chars: 9, Head: s[:3], Tail: s[len(s)-3:]}, api.Tally{})
	for _, x := range append(parts, whole, joined) {
		if within(s, x.Head) || within(s, x.Tail) {
			t.Errorf("%#v keeps the text", x)
		}
	}
}

func within(s, part string) bool {
	from := uintptr(unsafe.Pointer(unsafe.StringData(s)))
	at := uintptr(unsafe.Pointer(unsafe.StringData(part)))
	return at >= from && at < from+uintptr(len(s))
}
