package tally_test

import (
	"strings"
	"unicode/utf8"

	"vellum/api"
)

// told is the tally of s, counted another way than the package does: line ends by the bytes that they are. (No right sequence begins within another one, so that these bytes are that character wherever they stand.)
func told(s string) api.Tally {
	lines := strings.Count(s, "\n") + strings.Count(s, "\r") - strings.Count(s, "\r\n") +
		strings.Count(s, "\xC2\x85") + strings.Count(s, "\xE2\x80\xA8") + strings.Count(s, "\xE2\x80\xA9")
	first, last := s, s
	if len(s) > 3 {
		first, last = s[:3], s[len(s)-3:]
	}
	return api.Tally{Bytes: len(s), Chars: utf8.RuneCountInString(s), Lines: lines, Head: first, Tail: last}
}

// textsOf is all texts of so many bytes, each one of the alphabet.
func textsOf(alphabet string, bytes int) []string {
	l := []string{""}
	for range bytes {
		var longer []string
		for _, s := range l {
			for at := range len(alphabet) {
				longer = append(longer, s+alphabet[at:at+1])
			}
		}
		l = longer
	}
	return l
}

// upTo is all texts of up to so many bytes of the alphabet.
func upTo(alphabet string, bytes int) []string {
	var l []string
	for n := range bytes + 1 {
		l = append(l, textsOf(alphabet, n)...)
	}
	return l
}

// The bytes of the line ends and of characters of two, three and four bytes, in texts of which many are cut in their midst.
func alphabets() []string {
	return []string{"\r\na", "\xC2\x85\r\n", "\xE2\x80\xA8\n", "\xE2\x80\xA9\xC3", "\xF0\x9F\x98\x80", "\xED\x9F\xA0\x80", "\xF4\x8F\x90\xE0", "\xEF\xBF\xBD\xFF"}
}

// samples is texts of up to twelve bytes, with characters of each width, line ends and wrong bytes of each kind.
func samples() []string {
	return []string{
		"", "a", "abcdefg", "\r", "\n", "\r\n", "\n\r", "\r\r\n\n", "a\r\nb\rc", "\r\n\r\n\r\n\r\n",
		"\u0085", "\u2028", "\u2029", "\u2027\u202A\u0084\u0086", "\u0085\u2028\u2029\r\n",
		"h\u00E9\u0085x", "\u20ACuro\r", "\U0001F600\U0001F601\U0001F602", "\U0010FFFF\uFFFD\u0000",
		"\x85", "\xC2", "\xE2\x80", "\xE2", "\x80\xA8", "\xA8\xA8", "\xF0\x9F\x98", "\x80x", "\xF0\x9F", "\x98\x80",
		"\xED", "\xED\xA0\x80", "\xC0\x80", "\xF4\x90\x80\x80", "\xF8\x88\x80\x80\x80", "\xE0\x80\x85", "\xE2\x82\xE2\x80\xA8\x80",
		"x\xFF\u2029\xFE\r\n\xC2", "\xC2\xC2\u0085\x85\x85", "\n\xE2\xE2\x80\xE2\x80\xA8\r",
		"\v\f\x1C\x1D\x1E",
	}
}
