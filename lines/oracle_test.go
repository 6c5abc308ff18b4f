package lines_test

import (
	"strings"
	"unicode/utf8"

	"vellum/api"
)

// lineEnds is the bytes of each line end, the longer of two that begin alike first.
var lineEnds = []string{"\r\n", "\n", "\r", "\xC2\x85", "\xE2\x80\xA8", "\xE2\x80\xA9"}

// nearEnds is what only begins like a line end, or ends like one, or is taken for one elsewhere.
var nearEnds = []string{
	"\v", "\f", "\x1C", "\x1D", "\x1E", "\x00", "\x09", "\x0E",
	"\x85", "\xC2", "\xC2\x84", "\xC2\x86", "\xC3\x85", "\xC2\xC3",
	"\xE2", "\xE2\x80", "\x80", "\xA8", "\xA9", "\x80\xA8", "\xE2\xA8", "\xE2\x80\xA7", "\xE2\x80\xAA", "\xE2\x81\xA8", "\xE2\x81\xA9", "\xE1\x80\xA8", "\xE3\x80\xA8",
	"\xC0\x8A", "\xC0\x8D", "\xC1\x8A", "\xE0\x80\x8A", "\xE0\x80\x8D", "\xE0\x82\x85", "\xF0\x80\x80\x8A", "\xF0\x82\x80\xA8",
	"\xF0\x90\x80\xA8", "\xED\xA0\x80", "\xFF", "\xEF\xBF\xBD", "\xC3\xA9", "a",
}

// toldLine is a line by its bytes alone: where it begins, where its piece ends, how wide its end is.
type toldLine struct{ from, to, width int }

// toldLines is the lines of s, cut at the bytes of the line ends, without a look at characters.
func toldLines(s string) []toldLine {
	l := []toldLine{{}}
	for at := 0; at < len(s); {
		step := 1
		for _, end := range lineEnds {
			if strings.HasPrefix(s[at:], end) {
				step = len(end)
				l[len(l)-1].to, l[len(l)-1].width = at, step
				l = append(l, toldLine{from: at + step})
				break
			}
		}
		at += step
	}
	l[len(l)-1].to = len(s)
	return l
}

// toldEnd is how wide the line end is that begins at a byte place; 0, if none does.
func toldEnd(s string, at int) int {
	for _, x := range toldLines(s) {
		if x.to == at {
			return x.width
		}
	}
	return 0
}

// charPlaces is where each character of s begins, and the end of s.
func charPlaces(s string) []int {
	l := []int{0}
	for at := 0; at < len(s); {
		_, width := utf8.DecodeRuneInString(s[at:])
		at += width
		l = append(l, at)
	}
	return l
}

// toldSpots is the line and the column of each byte place of s, counted on from character to character, through the whole text.
func toldSpots(s string) []api.Spot {
	l := make([]api.Spot, len(s)+1)
	ends := map[int]bool{}
	for _, x := range toldLines(s) {
		if x.width > 0 {
			ends[x.to+x.width] = true
		}
	}
	places := charPlaces(s)
	var spot api.Spot
	for i, at := range places {
		if ends[at] {
			spot = api.Spot{Line: spot.Line + 1}
		}
		l[at] = spot
		if i+1 < len(places) {
			for within := at; within < places[i+1]; within++ {
				l[within] = spot
			}
			spot.Column++
		}
	}
	return l
}

// textsOf is all texts of up to so many bytes, each one of the alphabet.
func textsOf(alphabet string, bytes int) []string {
	l := []string{""}
	last := l
	for range bytes {
		var longer []string
		for _, s := range last {
			for at := range len(alphabet) {
				longer = append(longer, s+alphabet[at:at+1])
			}
		}
		l = append(l, longer...)
		last = longer
	}
	return l
}

// manyTexts is all short texts of small alphabets that hold the bytes of the line ends, and each line end beside each, and beside what is none.
func manyTexts() []string {
	l := textsOf("\r\na", 7)
	l = append(l, textsOf("\xC2\x85\r\n", 6)...)
	l = append(l, textsOf("\xE2\x80\xA8\xA9\n", 5)...)
	l = append(l, textsOf("\xE2\x80\xA8\xC2\x85\r\n\xFF", 4)...)
	all := append(append([]string{""}, lineEnds...), nearEnds...)
	for _, a := range all {
		for _, b := range all {
			l = append(l, a+b, a+"x\u00E9"+b, "\U0001F600"+a+b+"\xFF")
			for _, c := range lineEnds {
				l = append(l, a+b+c, a+c+b, c+a+b)
			}
		}
	}
	return l
}
