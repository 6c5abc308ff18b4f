package seek

import (
	"vellum/kinds"
	"vellum/utf"
)

// char is a character: a right one's rune, or the wrong byte itself; so two are one just where they are equal. The zero value is none: a wrong byte is not 0.
type char struct {
	code  rune
	right bool
}

// first is the first character of s, and its width; none and 0, if s is empty.
func first(s string) (char, int) {
	code, width, right := utf.First(s)
	if width > 0 && !right {
		code = rune(s[0])
	}
	return char{code, right}, width
}

// ends says whether c is a line end, or a part of one.
func ends(c char) bool { return c.right && kinds.Ends(c.code) }

// part says whether a character is of an atom's, or an element's, kind.
type part func(c char) bool

func within(c char) bool { return !ends(c) }

func word(c char) bool { return c.right && kinds.Word(c.code) }

func blank(c char) bool { return c.right && kinds.Blank(c.code) }

func same(as char) part {
	return func(c char) bool { return c == as }
}

// alike is same, but that right characters need only be folded the same.
func alike(as char) part {
	if !as.right {
		return same(as)
	}
	want := kinds.Fold(as.code)
	return func(c char) bool { return c.right && kinds.Fold(c.code) == want }
}

// between is the right characters from a rune to another one, both in.
func between(low, high rune) part {
	return func(c char) bool { return c.right && low <= c.code && c.code <= high }
}

func oneOf(parts []part) part {
	return func(c char) bool {
		for _, is := range parts {
			if is(c) {
				return true
			}
		}
		return false
	}
}

// folded is what is so itself, and what is so once it is folded.
func folded(is part) part {
	return func(c char) bool {
		return is(c) || c.right && is(char{kinds.Fold(c.code), true})
	}
}

func not(is part) part {
	return func(c char) bool { return !is(c) }
}
