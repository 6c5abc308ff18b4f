package tally_test

import (
	"math"
	"testing"

	"vellum/api"
	"vellum/tally"
)

// P3.1, P3.2, P3.8: of all texts of up to six bytes of the alphabets, and of some longer ones.
func TestOfAllTexts(t *testing.T) {
	for _, s := range manyTexts() {
		got := tally.Of(s)
		if got != told(s) || tally.Check(got) != api.OK {
			t.Fatalf("Of(%q) = %#v, Check %d", s, got, tally.Check(got))
		}
		chars := 0
		for range s {
			chars++
		}
		if got.Chars != chars || got.Bytes != len(s) {
			t.Fatalf("Of(%q) = %#v: a range tells %d characters", s, got, chars)
		}
	}
}

// manyTexts is all texts of up to six bytes of each alphabet, the samples, and samples behind one another.
func manyTexts() []string {
	l := samples()
	for _, a := range samples() {
		for _, b := range samples() {
			l = append(l, a+b)
		}
	}
	for _, alphabet := range alphabets() {
		l = append(l, upTo(alphabet, 6)...)
	}
	return l
}

// P3.2: of all tallies of up to six bytes, with ends of one alphabet, those may be that a text has.
func TestCheckSmall(t *testing.T) {
	for _, alphabet := range []string{"\xC2\x85\r\n", "\xE2\x80\xA8\r", "\xF0\x9F\x98\x80"} {
		for bytes := range 7 {
			has := map[api.Tally]bool{}
			for _, s := range textsOf(alphabet, bytes) {
				has[told(s)] = true
			}
			ends := textsOf(alphabet, min(3, bytes))
			for _, first := range ends {
				for _, last := range ends {
					checkCounts(t, bytes, first, last, has)
				}
			}
		}
	}
}

// checkCounts goes through all counts that might be theirs.
func checkCounts(t *testing.T, bytes int, first, last string, has map[api.Tally]bool) {
	for chars := -1; chars <= bytes+1; chars++ {
		for lines := -1; lines <= bytes+1; lines++ {
			x := api.Tally{Bytes: bytes, Chars: chars, Lines: lines, Head: first, Tail: last}
			want := api.ErrTally
			if has[x] {
				want = api.OK
			}
			if e := tally.Check(x); e != want {
				t.Fatalf("Check(%#v) = %d", x, e)
			}
		}
	}
}

// P3.2: just above six bytes, and at huge numbers, the counts and the lengths of the ends alone tell.
func TestCheckLarge(t *testing.T) {
	const most = math.MaxInt
	for _, bytes := range []int{7, 8, 9, 12, 13, most - 4, most - 3, most - 2, most - 1, most} {
		least := bytes/4 + min(1, bytes%4)
		for _, chars := range []int{math.MinInt, -1, 0, 1, least - 1, least, least + 1, bytes/2 + 1, bytes - 1, bytes, min(bytes, most-1) + 1} {
			for _, lines := range []int{math.MinInt, -1, 0, 1, least, chars - 1, chars, min(chars, most-1) + 1, most} {
				want := api.ErrTally
				if lines >= 0 && lines <= chars && chars <= bytes && chars >= least {
					want = api.OK
				}
				for _, ends := range [][2]string{{"abc", "xyz"}, {"\n\n\n", "\r\n\r"}, {"\x80\xFF\xC2", "\xF0\x9F\x98"}} {
					x := api.Tally{Bytes: bytes, Chars: chars, Lines: lines, Head: ends[0], Tail: ends[1]}
					if e := tally.Check(x); e != want {
						t.Fatalf("Check(%#v) = %d", x, e)
					}
				}
			}
		}
	}
}

// checkJoin holds Join and Seam of two texts against the text that they are together.
func checkJoin(t *testing.T, a, b string) {
	t.Helper()
	x, y, whole := tally.Of(a), tally.Of(b), told(a+b)
	if got, e := tally.Join(x, y); got != whole || e != api.OK {
		t.Fatalf("Join(%q, %q) = %#v, %d", a, b, got, e)
	}
	chars, lines, e := tally.Seam(x, y)
	if chars != whole.Chars-x.Chars-y.Chars || lines != whole.Lines-x.Lines-y.Lines || e != api.OK {
		t.Fatalf("Seam(%q, %q) = %d, %d, %d", a, b, chars, lines, e)
	}
}

// P3.3, P3.4, P3.7: of all texts, cut at each place.
func TestJoinAllTexts(t *testing.T) {
	for _, s := range manyTexts() {
		for at := range len(s) + 1 {
			checkJoin(t, s[:at], s[at:])
		}
	}
}

// P3.3, P3.7: each byte with each, at the ends of texts whose middle is not known.
func TestJoinAllBytes(t *testing.T) {
	for a := range 256 {
		for b := range 256 {
			last, first := string([]byte{byte(a)}), string([]byte{byte(b)})
			checkJoin(t, last, first)
			checkJoin(t, "\u0085long text"+last, first+"long text\u2029")
			checkJoin(t, "long text\xE2"+last, first+"\xA8long text")
			checkJoin(t, "long text\xF0\x90"+last, first)
			checkJoin(t, "\xF1"+last, first+"\x80")
		}
	}
}

// P3.7: of three tallies of texts it does not matter which two are joined first.
func TestJoinThree(t *testing.T) {
	for _, a := range samples() {
		for _, b := range samples() {
			for _, c := range samples() {
				x, y, z := tally.Of(a), tally.Of(b), tally.Of(c)
				left, e := tally.Join(x, y)
				left, f := tally.Join(left, z)
				right, g := tally.Join(y, z)
				right, h := tally.Join(x, right)
				if left != right || left != told(a+b+c) || e != api.OK || f != api.OK || g != api.OK || h != api.OK {
					t.Fatalf("of %q, %q, %q: %#v, %#v", a, b, c, left, right)
				}
			}
		}
	}
}

// P3.7: the zero tally joined to any that may be, on either side, is that one.
func TestJoinNone(t *testing.T) {
	l := []api.Tally{
		{Bytes: 7, Chars: 2, Lines: 2, Head: "\n\n\n", Tail: "ab\r"},
		{Bytes: math.MaxInt, Chars: math.MaxInt, Lines: math.MaxInt, Head: "\nbc", Tail: "\xF0\x9F\x98"},
		{Bytes: math.MaxInt, Chars: math.MaxInt/4 + 1, Head: "\x80bc", Tail: "xyz"},
	}
	for _, s := range samples() {
		l = append(l, tally.Of(s))
	}
	for _, x := range l {
		left, e := tally.Join(api.Tally{}, x)
		right, f := tally.Join(x, api.Tally{})
		if left != x || right != x || e != api.OK || f != api.OK {
			t.Errorf("of %#v and none: %#v, %d; %#v, %d", x, left, e, right, f)
		}
	}
}

// P3.6, P3.7, P3.8: samples cut at each two places.
func TestPartsEverywhere(t *testing.T) {
	for _, a := range samples() {
		for _, b := range []string{"", "\x80\xA8\n\x85", "\u2028\r\n\U0001F600"} {
			s := a + b
			for i := range len(s) + 1 {
				for j := i; j <= len(s); j++ {
					checkParts(t, s, i, j)
				}
			}
		}
	}
}

func checkParts(t *testing.T, s string, i, j int) {
	t.Helper()
	l, e := tally.Parts(s, i, j)
	if e != api.OK || len(l) != 3 || l[0] != told(s[:i]) || l[1] != told(s[i:j]) || l[2] != told(s[j:]) {
		t.Fatalf("Parts(%q, %d, %d) = %#v, %d", s, i, j, l, e)
	}
	whole := told(s)
	if got, e := tally.Sum(l...); got != whole || e != api.OK {
		t.Fatalf("Sum of Parts(%q, %d, %d) = %#v, %d", s, i, j, got, e)
	}
	chars := l[0].Chars + l[1].Chars + l[2].Chars
	if chars < whole.Chars || chars > whole.Chars+3*2 {
		t.Fatalf("Parts(%q, %d, %d) have %d characters, the whole %d", s, i, j, chars, whole.Chars)
	}
}

// P3.7, P3.8: a text cut into single bytes.
func TestPartsOfOneByte(t *testing.T) {
	for _, s := range manyTexts() {
		var at []int
		for i := range len(s) {
			at = append(at, i)
		}
		l, e := tally.Parts(s, at...)
		if e != api.OK || len(l) != len(s)+1 {
			t.Fatalf("Parts(%q, %v): %d, %d", s, at, len(l), e)
		}
		if got, e := tally.Sum(l...); got != told(s) || e != api.OK {
			t.Fatalf("Sum of the bytes of %q = %#v, %d", s, got, e)
		}
	}
}

// R1, R2: whatever the numbers and the ends are, calls end, and beside an error stands nothing.
func TestAnyTallies(t *testing.T) {
	numbers := []int{math.MinInt, -1, 0, 1, 3, 7, math.MaxInt/4 + 1, math.MaxInt}
	var l []api.Tally
	for _, bytes := range numbers {
		for _, chars := range numbers {
			for _, lines := range numbers {
				for _, ends := range []string{"", "\n", "ab\r", "\xF0\x9F\x98", "\x80\x80\x80", "longer"} {
					l = append(l, api.Tally{Bytes: bytes, Chars: chars, Lines: lines, Head: ends, Tail: ends})
				}
			}
		}
	}
	// Those that may be are few: they are held against all.
	for i, x := range l {
		if tally.Check(x) != api.OK && i%97 != 0 {
			continue
		}
		for _, y := range l {
			checkAny(t, x, y)
		}
	}
}

func checkAny(t *testing.T, x, y api.Tally) {
	t.Helper()
	got, e := tally.Join(x, y)
	chars, lines, f := tally.Seam(x, y)
	sum, g := tally.Sum(x, y)
	may := tally.Check(x) == api.OK && tally.Check(y) == api.OK
	if e != api.OK && got != (api.Tally{}) || e == api.OK && tally.Check(got) != api.OK || sum != got || g != e {
		t.Fatalf("Join(%#v, %#v) = %#v, %d; Sum = %#v, %d", x, y, got, e, sum, g)
	}
	if !may && (e != api.ErrTally || f != api.ErrTally || chars != 0 || lines != 0) || may && f != api.OK {
		t.Fatalf("of %#v, %#v: Join %d; Seam %d, %d, %d", x, y, e, chars, lines, f)
	}
}
