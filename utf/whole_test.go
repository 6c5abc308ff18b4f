package utf_test

import (
	"math"
	"slices"
	"strings"
	"testing"

	"vellum/api"
	"vellum/utf"
)

// checkText holds all calls on s against the chapter's table.
func checkText(t *testing.T, s string) {
	t.Helper()
	chars := charsOf(s)
	ok := endsRight(s, chars) && walksRight(s, chars) && placesRight(s, chars) && seamRight(s) && backRight(s, chars)
	if !ok {
		t.Fatalf("of %s: ends %v, walks %v, places %v, seam %v, there and back %v", hex(s),
			endsRight(s, chars), walksRight(s, chars), placesRight(s, chars), seamRight(s), backRight(s, chars))
	}
}

// endsRight is P2.1.
func endsRight(s string, chars []char) bool {
	var first, last char
	if len(chars) > 0 {
		first, last = chars[0], chars[len(chars)-1]
	}
	r, width, right := utf.First(s)
	q, breadth, sound := utf.Last(s)
	return r == first.r && width == first.width && right == first.right &&
		q == last.r && breadth == last.width && sound == last.right
}

// walksRight is P2.4, with the counts and lists of P2.2.
func walksRight(s string, chars []char) bool {
	var all []placed
	var runes []rune
	var wrong []int
	var mend []byte
	for _, c := range chars {
		all = append(all, placed{c.at, c.r})
		runes = append(runes, c.r)
		if c.right {
			mend = append(mend, s[c.at:c.at+c.width]...)
		} else {
			wrong = append(wrong, c.at)
			mend = append(mend, 0xEF, 0xBF, 0xBD)
		}
	}
	back := slices.Clone(all)
	slices.Reverse(back)
	return slices.Equal(collect(utf.All(s)), all) && slices.Equal(collect(utf.Back(s)), back) &&
		slices.Equal(slices.Collect(utf.Wrong(s)), wrong) && slices.Equal(utf.Runes(s), runes) &&
		utf.Count(s) == len(chars) && utf.Mend(s) == string(mend)
}

// placesRight is P2.3.
func placesRight(s string, chars []char) bool {
	n := 0 // characters that begin ahead of at
	for at := range len(s) {
		begins := n < len(chars) && chars[n].at == at
		if begins {
			if place, e := utf.At(s, n); place != at || e != api.OK {
				return false
			}
			n++
		}
		if of, e := utf.Of(s, at); of != n-1 || e != api.OK || utf.Begins(s, at) != begins {
			return false
		}
	}
	at, e := utf.At(s, len(chars))
	of, f := utf.Of(s, len(s))
	return at == len(s) && e == api.OK && of == len(chars) && f == api.OK && utf.Begins(s, len(s)) &&
		noCharacter(s, len(chars)+1) && noCharacter(s, -1) && noCharacter(s, math.MinInt) && noCharacter(s, math.MaxInt) &&
		noPlace(s, len(s)+1) && noPlace(s, -1) && noPlace(s, math.MinInt) && noPlace(s, math.MaxInt)
}

func noCharacter(s string, n int) bool {
	at, e := utf.At(s, n)
	return at == 0 && e == api.ErrRange
}

func noPlace(s string, at int) bool {
	n, e := utf.Of(s, at)
	return n == 0 && e == api.ErrRange && !utf.Begins(s, at)
}

// seamRight is P2.5 and P2.6, s being cut at each place.
func seamRight(s string) bool {
	whole := charsOf(s)
	for cut := range len(s) + 1 {
		a, b := s[:cut], s[cut:]
		pending := utf.Pending(a)
		if pending != pendingOf(a) {
			return false
		}
		k := utf.Closes(a[cut-pending:], b)
		if k != closesOf(a[cut-pending:], b) || utf.Closes(a, b) != closesOf(a, b) {
			return false
		}
		if !wrongAlone(a, b, pending, k) {
			return false
		}
		want := joined(charsOf(a), charsOf(b), cut)
		if k > 0 {
			sequence := a[cut-pending:] + b[:k]
			made := []char{{cut - pending, pending + k, numberOf(sequence), true}}
			want = slices.Concat(charsOf(a[:cut-pending]), joined(made, charsOf(b[k:]), cut+k))
		}
		if !slices.Equal(whole, want) {
			return false
		}
	}
	return true
}

// wrongAlone says whether the last bytes of a and the first ones of b, so many, are wrong ones there.
func wrongAlone(a, b string, last, first int) bool {
	atEnd := slices.Collect(utf.Wrong(a))
	atBeginning := slices.Collect(utf.Wrong(b))
	for i := range last {
		if !slices.Contains(atEnd, len(a)-1-i) {
			return false
		}
	}
	for i := range first {
		if !slices.Contains(atBeginning, i) {
			return false
		}
	}
	return true
}

// pendingOf is how many of the last bytes are a proper beginning; at most one row of them is.
func pendingOf(s string) int {
	for n := 1; n <= 3 && n <= len(s); n++ {
		if properBeginning(s[len(s)-n:]) {
			return n
		}
	}
	return 0
}

func closesOf(pending, next string) int {
	if !properBeginning(pending) {
		return 0
	}
	for k := 1; k <= 3 && k <= len(next); k++ {
		if rightSequence(pending + next[:k]) {
			return k
		}
	}
	return 0
}

// joined is the characters of a, and behind them those of b, which begins at a place.
func joined(a, b []char, at int) []char {
	l := slices.Clone(a)
	for _, c := range b {
		c.at += at
		l = append(l, c)
	}
	return l
}

// backRight is P2.7.
func backRight(s string, chars []char) bool {
	mend := utf.Mend(s)
	sound := !slices.ContainsFunc(chars, func(c char) bool { return !c.right })
	if utf.Encode(utf.Runes(s)...) != mend || (mend == s) != sound || utf.Count(mend) != utf.Count(s) {
		return false
	}
	if !slices.Equal(utf.Runes(mend), utf.Runes(s)) {
		return false
	}
	for n := range len(chars) + 1 {
		at, _ := utf.At(s, n)
		if of, e := utf.Of(s, at); of != n || e != api.OK {
			return false
		}
	}
	for at := range len(s) + 1 {
		n, _ := utf.Of(s, at)
		place, e := utf.At(s, n)
		if e != api.OK || place > at || (place == at) != utf.Begins(s, at) {
			return false
		}
	}
	back := collect(utf.Back(s))
	slices.Reverse(back)
	return slices.Equal(back, collect(utf.All(s)))
}

// P2.1 to P2.7 of all short texts: one and two bytes of any kind, three and four of those that the table tells apart.
func TestAllShortTexts(t *testing.T) {
	every := make([]byte, 256)
	for i := range every {
		every[i] = byte(i)
	}
	check := func(s string) { checkText(t, s) }
	check("")
	rowsOf(1, every, check)
	rowsOf(2, every, check)
	rowsOf(3, edges, check)
	rowsOf(4, sharp, check)
}

// P2.1 to P2.7: wrong bytes of each kind at the beginning, within and at the end of a text.
func TestWrongBytesOfEachKind(t *testing.T) {
	for _, wrong := range wrongKinds {
		for _, right := range rightOnes {
			for s, times := range map[string]int{wrong: 1, wrong + right: 1, right + wrong: 1, right + wrong + right: 1, wrong + right + wrong: 2} {
				checkText(t, s)
				if n := len(slices.Collect(utf.Wrong(s))); n != times*len(wrong) {
					t.Errorf("of %s: %d wrong bytes", hex(s), n)
				}
			}
		}
		for _, other := range wrongKinds {
			checkText(t, wrong+other)
		}
	}
}

// P2.1 to P2.7 of longer texts.
func TestMixedTexts(t *testing.T) {
	for seed := range uint32(2000) {
		checkText(t, mixed(seed, int(seed%12)+3))
	}
}

// R1: calls on long texts end, from behind too, where a walk that looked at all bytes ahead for each one would not.
func TestLongTexts(t *testing.T) {
	const size = 1 << 20
	for _, unit := range []string{"\x80", "\xFF", "\xF0\x9F\x98", "😀"} {
		s := strings.Repeat(unit, size/len(unit))
		n := 0
		for range utf.Back(s) {
			n++
		}
		if n != utf.Count(s) || len(utf.Runes(s)) != n || utf.Count(utf.Mend(s)) != n {
			t.Errorf("of many %s: %d from behind, %d from the front", hex(unit), n, utf.Count(s))
		}
		if utf.Closes(s, s) != 0 || utf.Closes("\xC3", s) > 1 {
			t.Errorf("Closes of many %s", hex(unit))
		}
	}
}
