package chunks

import (
	"iter"

	"vellum/api"
	"vellum/lines"
	"vellum/utf"
)

// across is the character that a seam cuts, and how many of the bytes behind the seam are its; 0, if it cuts none.
func across(ahead, behind string) (rune, int) {
	n := utf.Closes(ahead, behind)
	if n == 0 {
		return 0, 0
	}
	r, _, _ := utf.First(ahead + behind[:n])
	return r, n
}

// open is how many of the last bytes of s may be the beginning of what goes on behind a seam: of a character, or of a line end.
func open(s string) int {
	if r, width, _ := utf.Last(s); r == '\r' {
		return width
	}
	return utf.Pending(s)
}

// pieces tells the text in pieces that cut no character and no line end, each with the byte place at which it begins; some are empty.
func (t text) pieces() iter.Seq2[int, string] {
	return func(yield func(int, string) bool) {
		// What was begun ahead of a seam. (More than one chunk may have begun it: one of a single byte goes on with what the one ahead of it began.)
		begun := ""
		for at, c := range t.told() {
			from, s := at-len(begun), c.Text()
			if r, n := across(begun, s); n > 0 {
				if !yield(from, utf.Encode(r)) {
					return
				}
				begun, from, s = "", at+n, s[n:]
			}
			s = begun + s
			end := len(s) - open(s)
			if !yield(from, s[:end]) {
				return
			}
			begun = s[end:]
		}
		yield(t.size()-len(begun), begun)
	}
}

// at is the byte place at which a character begins, by its number; for the number of characters the text's end.
func (t text) at(char int) (int, api.Errno) {
	ahead := 0
	for from, s := range t.pieces() {
		n := utf.Count(s)
		if char >= ahead+n {
			ahead += n
			continue
		}
		at, code := utf.At(s, char-ahead)
		if code != api.OK {
			return 0, code
		}
		return from + at, api.OK
	}
	if char != ahead {
		return 0, api.ErrRange
	}
	return t.size(), api.OK
}

// of is the number of the character that has a byte place; at the text's end the number of characters.
func (t text) of(at int) (int, api.Errno) {
	if !t.has(at, at) {
		return 0, api.ErrRange
	}
	number := 0
	for from, s := range t.pieces() {
		n, _ := utf.Of(s, min(at-from, len(s)))
		number += n
		if at < from+len(s) {
			break
		}
	}
	return number, api.OK
}

// line is the byte place at which the line number n begins.
func (t text) line(n int) (int, api.Errno) {
	ahead, begin := 0, 0
pieces:
	for from, s := range t.pieces() {
		for piece, width := range lines.All(s) {
			if ahead == n {
				break pieces
			}
			// The last line of a piece goes on in the next one.
			if width > 0 {
				ahead++
				begin = from + piece.To + width
			}
		}
	}
	if ahead != n {
		return 0, api.ErrRange
	}
	return begin, api.OK
}
