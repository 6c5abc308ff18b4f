package utf_test

import "strconv"

// span is the bytes from low to high.
type span struct{ low, high byte }

var following = span{0x80, 0xBF}

// rows is the chapter's table of right sequences, so that what is tested is held against its words and not against the language's own range.
var rows = [][]span{
	{{0x00, 0x7F}},
	{{0xC2, 0xDF}, following},
	{{0xE0, 0xE0}, {0xA0, 0xBF}, following},
	{{0xE1, 0xEC}, following, following},
	{{0xED, 0xED}, {0x80, 0x9F}, following},
	{{0xEE, 0xEF}, following, following},
	{{0xF0, 0xF0}, {0x90, 0xBF}, following, following},
	{{0xF1, 0xF3}, following, following, following},
	{{0xF4, 0xF4}, {0x80, 0x8F}, following, following},
}

// fits says whether the bytes of s are of the spans, one by one.
func fits(s string, spans []span) bool {
	if len(s) != len(spans) {
		return false
	}
	for i, x := range spans {
		if s[i] < x.low || s[i] > x.high {
			return false
		}
	}
	return true
}

// rightSequence says whether s is a right sequence.
func rightSequence(s string) bool {
	for _, row := range rows {
		if fits(s, row) {
			return true
		}
	}
	return false
}

// properBeginning says whether s begins a right sequence, and is none.
func properBeginning(s string) bool {
	for _, row := range rows {
		if s != "" && len(s) < len(row) && fits(s, row[:len(s)]) {
			return true
		}
	}
	return false
}

// numberOf is the number that a right sequence stands for.
func numberOf(s string) rune {
	low := func(i int) rune { return rune(s[i]) % 64 }
	switch len(s) {
	case 1:
		return rune(s[0])
	case 2:
		return 64*(rune(s[0])-0xC0) + low(1)
	case 3:
		return 4096*(rune(s[0])-0xE0) + 64*low(1) + low(2)
	}
	return 1<<18*(rune(s[0])-0xF0) + 1<<12*low(1) + 64*low(2) + low(3)
}

type char struct {
	at, width int
	r         rune
	right     bool
}

// charsOf is the characters of s, from the front on.
func charsOf(s string) []char {
	var l []char
	for at := 0; at < len(s); {
		c := char{at, 1, 0xFFFD, false}
		for width := 1; width <= 4 && at+width <= len(s); width++ {
			if rightSequence(s[at : at+width]) {
				c = char{at, width, numberOf(s[at : at+width]), true}
			}
		}
		l = append(l, c)
		at += c.width
	}
	return l
}

// wrongKinds is texts whose bytes are all wrong, of each kind; right ones around them change nothing.
var wrongKinds = []string{
	"\x80", "\xBF", "\x80\xBF", // following ones that follow nothing
	"\xC0", "\xC1", "\xC0\x80", "\xC1\xBF", // too long for 00 to 7F
	"\xE0\x80\x80", "\xE0\x9F\xBF", // too long for up to 7FF
	"\xF0\x80\x80\x80", "\xF0\x8F\xBF\xBF", // too long for up to FFFF
	"\xED\xA0\x80", "\xED\xBF\xBF", // surrogates
	"\xF4\x90\x80\x80", "\xF4\xBF\xBF\xBF", // beyond 10FFFF
	"\xF5", "\xF5\x80\x80\x80", "\xF8\x80\x80\x80\x80", "\xFE", "\xFF", // what begins none
	"\xC2", "\xDF", // cut short
	"\xE0", "\xE0\xA0", "\xE2\x82", "\xED\x9F", "\xEF\xBF",
	"\xF0", "\xF0\x90", "\xF0\x9F\x98", "\xF1\x80\x80", "\xF4\x8F\xBF",
}

// rightOnes is right sequences: the least and the greatest of each width, those next to what may not be, FFFD itself.
var rightOnes = []string{
	"A", "\x00", "\x7F", "\xC2\x80", "\xC3\xA9", "\xDF\xBF",
	"\xE0\xA0\x80", "\xE2\x82\xAC", "\xED\x9F\xBF", "\xEE\x80\x80", "\xEF\xBF\xBD", "\xEF\xBF\xBF",
	"\xF0\x90\x80\x80", "\xF0\x9F\x98\x80", "\xF3\xBF\xBF\xBF", "\xF4\x8F\xBF\xBF",
}

// edges is the bytes next to which the table's rows begin and end.
var edges = []byte{0x00, 0x41, 0x7F, 0x80, 0x8F, 0x90, 0x9F, 0xA0, 0xBD, 0xBF, 0xC0, 0xC1, 0xC2, 0xDF, 0xE0, 0xE1, 0xEC, 0xED, 0xEE, 0xEF, 0xF0, 0xF1, 0xF3, 0xF4, 0xF5, 0xFF}

// sharp is fewer of them, each with another part in the table, for longer texts.
var sharp = []byte{0x41, 0x80, 0x8F, 0x90, 0x9F, 0xA0, 0xBF, 0xC1, 0xC2, 0xE0, 0xE1, 0xED, 0xEF, 0xF0, 0xF1, 0xF4, 0xF5}

// rowsOf goes through all texts of n bytes out of some.
func rowsOf(n int, some []byte, do func(string)) {
	b := make([]byte, n)
	var set func(int)
	set = func(i int) {
		if i == n {
			do(string(b))
			return
		}
		for _, x := range some {
			b[i] = x
			set(i + 1)
		}
	}
	set(0)
}

// mixed is a text of n pieces that hang on seed: bytes of the edges, right ones and wrong ones.
func mixed(seed uint32, n int) string {
	pick := func(of int) int {
		seed = seed*1664525 + 1013904223
		return int(seed>>8) % of
	}
	var b []byte
	for range n {
		switch pick(3) {
		case 0:
			b = append(b, edges[pick(len(edges))])
		case 1:
			b = append(b, rightOnes[pick(len(rightOnes))]...)
		case 2:
			b = append(b, wrongKinds[pick(len(wrongKinds))]...)
		}
	}
	return string(b)
}

// hex is the bytes of s as numbers, for what a failing test says.
func hex(s string) string {
	text := ""
	for i := range len(s) {
		text += strconv.FormatInt(int64(s[i]), 16) + " "
	}
	return text
}
