package scan

import (
	"strings"
	"unicode/utf8"

	"vellum/utf"
)

// reader goes through a text as it is written. Where it can't go on, at is the place of what can't stand there, or the end.
type reader struct {
	text string
	at   int
}

// done says whether nothing is left.
func (r *reader) done() bool { return r.at == len(r.text) }

// takes goes over a mark, if it stands next, and says whether it did. (No byte below 80 is a part of a wider character.)
func (r *reader) takes(mark byte) bool {
	is := !r.done() && r.text[r.at] == mark
	if is {
		r.at++
	}
	return is
}

// skip goes over all bytes of a kind that stand next, and says whether one did.
func (r *reader) skip(is func(byte) bool) bool {
	from := r.at
	for !r.done() && is(r.text[r.at]) {
		r.at++
	}
	return r.at > from
}

// quoted reads a quoted text from behind its first mark on, the closing one too, and says whether it is one.
func (r *reader) quoted() (string, bool) {
	var b strings.Builder
	var c rune
	var width int
	var right bool
	var text string
part:
	if r.takes('"') {
		return b.String(), true
	}
	c, width, right = utf.First(r.text[r.at:])
	if c == '\\' {
		goto escape
	}
	// At the end there is no character, and so no right one.
	if !right || !plain(c) {
		goto fault
	}
	b.WriteString(r.text[r.at : r.at+width])
	r.at += width
	goto part
escape:
	if text, width = escaped(r.text[r.at:]); width == 0 {
		goto fault
	}
	b.WriteString(text)
	r.at += width
	goto part
fault:
	return "", false
}

// escaped is what the escape stands for with which s begins, and how wide that is; 0, if it is none.
func escaped(s string) (string, int) {
	r := reader{text: s, at: len(`\`)}
	switch {
	case r.takes('"'):
		return `"`, r.at
	case r.takes('\\'):
		return `\`, r.at
	case r.takes('n'):
		return "\n", r.at
	case r.takes('r'):
		return "\r", r.at
	case r.takes('t'):
		return "\t", r.at
	case r.takes('x'):
		goto oneByte
	case r.takes('u'):
		goto oneRune
	}
	goto none
oneByte:
	if c, ok := r.digits(2, 2); ok {
		return string([]byte{byte(c)}), r.at
	}
	goto none
oneRune:
	if !r.takes('{') {
		goto none
	}
	if c, ok := r.digits(1, 6); ok && r.takes('}') && utf8.ValidRune(c) {
		return utf.Encode(c), r.at
	}
none:
	return "", 0
}

// digits reads so many digits of sixteen, least to most of them, as a number.
func (r *reader) digits(least, most int) (rune, bool) {
	var c rune
	n := 0
	for n < most && !r.done() {
		value := strings.IndexByte(sixteen, r.text[r.at])
		if value < 0 {
			break
		}
		c = c<<4 | rune(value)
		r.at++
		n++
	}
	return c, n >= least
}
