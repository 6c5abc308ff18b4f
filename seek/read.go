package seek

import (
	"strings"
	"unicode/utf8"

	"vellum/utf"
)

// The kinds of items: a place at which a line begins, or ends; characters of an atom's kind: just one, none or one, any number. (One or more are two items: one, and any number.)
const (
	lineBegins = iota
	lineEnds
	once
	maybe
	many
)

// item is a part of a pattern that stands behind another one.
type item struct {
	kind int
	is   part
}

// reader goes through a pattern as it is written. Where it can't go on, at is the place of what can't stand there, or the end.
type reader struct {
	text   string
	at     int
	folded bool
	items  []item
}

// done says whether nothing is left.
func (r *reader) done() bool { return r.at == len(r.text) }

// sees says whether a mark stands next. (No byte below 80 is a part of a wider character.)
func (r *reader) sees(mark byte) bool { return !r.done() && r.text[r.at] == mark }

// takes goes over a mark, if it stands next, and says whether it did.
func (r *reader) takes(mark byte) bool {
	is := r.sees(mark)
	if is {
		r.at++
	}
	return is
}

// back goes back over one character.
func (r *reader) back() {
	_, width, _ := utf.Last(r.text[:r.at])
	r.at -= width
}

func (r *reader) put(kind int, is part) { r.items = append(r.items, item{kind, is}) }

// read reads the whole pattern, and says whether it is one.
func (r *reader) read() bool {
	var is part
	var single char
	var ok bool
	if strings.HasPrefix(r.text, `\i`) {
		r.folded = true
		r.at = len(`\i`)
	}
next:
	switch {
	case r.done():
		return true
	case r.takes('^'):
		r.put(lineBegins, nil)
		goto next
	case r.takes('$'):
		r.put(lineEnds, nil)
		goto next
	case r.sees('*'), r.sees('+'), r.sees('?'):
		return false
	case r.takes('.'):
		is = within
		goto count
	case r.takes('['):
		goto set
	}
	if is, single, ok = r.written(); !ok {
		return false
	}
	if is == nil {
		is = r.one(single)
	}
	goto count
set:
	if is, ok = r.set(); !ok {
		return false
	}
count:
	switch {
	case r.takes('*'):
		r.put(many, is)
	case r.takes('+'):
		r.put(once, is)
		r.put(many, is)
	case r.takes('?'):
		r.put(maybe, is)
	default:
		r.put(once, is)
	}
	goto next
}

// one is an atom that is a single character.
func (r *reader) one(single char) part {
	if r.folded {
		return alike(single)
	}
	return same(single)
}

// set reads a set from behind its bracket on, up to the closing one.
func (r *reader) set() (part, bool) {
	var parts []part
	var is part
	var low, high char
	var ok bool
	others := r.takes('^')
	if r.sees(']') {
		return nil, false
	}
element:
	if r.takes(']') {
		return r.whole(parts, others), true
	}
	if r.sees('-') {
		return nil, false
	}
	if is, low, ok = r.written(); !ok {
		return nil, false
	}
	if is == nil && r.takes('-') {
		goto upTo
	}
	if is == nil {
		is = same(low)
	}
	parts = append(parts, is)
	goto element
upTo:
	if r.sees(']') || r.sees('-') {
		return nil, false
	}
	if is, high, ok = r.written(); !ok {
		return nil, false
	}
	if is != nil || !low.right || !high.right || high.code < low.code {
		r.back()
		return nil, false
	}
	parts = append(parts, between(low.code, high.code))
	goto element
}

// whole is a set of these elements, or of all others. It is folded as one, ahead of being turned.
func (r *reader) whole(parts []part, others bool) part {
	is := oneOf(parts)
	if r.folded {
		is = folded(is)
	}
	if others {
		is = not(is)
	}
	return is
}

// written reads what stands for a kind, which it tells as a part, or for a single character.
func (r *reader) written() (part, char, bool) {
	if r.takes('\\') {
		return r.escaped()
	}
	single, width := first(r.text[r.at:])
	r.at += width
	return nil, single, width > 0
}

// escaped reads what stands behind a `\`.
func (r *reader) escaped() (part, char, bool) {
	var single char
	switch {
	case r.done():
		goto fault
	case r.takes('w'):
		return word, char{}, true
	case r.takes('W'):
		return not(word), char{}, true
	case r.takes('s'):
		return blank, char{}, true
	case r.takes('S'):
		return not(blank), char{}, true
	case r.takes('n'):
		single = char{'\n', true}
	case r.takes('r'):
		single = char{'\r', true}
	case r.takes('t'):
		single = char{'\t', true}
	case r.takes('x'):
		goto code
	case r.takes('u'):
		goto number
	case isMark(r.text[r.at]):
		single = char{rune(r.text[r.at]), true}
		r.at++
	default:
		goto fault
	}
	return nil, single, true
code:
	if code, ok := r.digits(2, 2); ok {
		return nil, char{code, code < 0x80}, true
	}
	goto fault
number:
	if !r.takes('{') {
		goto fault
	}
	if code, ok := r.digits(1, 6); ok && r.takes('}') {
		if utf8.ValidRune(code) {
			return nil, char{code, true}, true
		}
		r.back()
	}
fault:
	return nil, char{}, false
}

// isMark says whether b is one of the 32 marks of ASCII.
func isMark(b byte) bool {
	return b >= 33 && b <= 47 || b >= 58 && b <= 64 || b >= 91 && b <= 96 || b >= 123 && b <= 126
}

// digits reads so many hexadecimal digits, least to most of them, as a number.
func (r *reader) digits(least, most int) (rune, bool) {
	var code rune
	n := 0
more:
	if n == most || r.done() {
		return code, n >= least
	}
	switch b := r.text[r.at]; {
	case b >= '0' && b <= '9':
		code = code<<4 | rune(b-'0')
	case b >= 'a' && b <= 'f':
		code = code<<4 | rune(b-'a'+10)
	case b >= 'A' && b <= 'F':
		code = code<<4 | rune(b-'A'+10)
	default:
		return code, n >= least
	}
	n++
	r.at++
	goto more
}
