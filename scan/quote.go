package scan

import (
	"strconv"
	"strings"

	"vellum/utf"
)

// sixteen is the digits of sixteen, each at the place of its value.
const sixteen = "0123456789abcdef"

// Quote is the one form of the quoted text that stands for s.
func Quote(s string) string {
	var b strings.Builder
	b.Grow(len(`"`) + len(s) + len(`"`))
	b.WriteByte('"')
	for at := 0; at < len(s); {
		c, width, right := utf.First(s[at:])
		if right && plain(c) {
			b.WriteString(s[at : at+width])
		} else {
			b.WriteString(escape(c, s[at]))
		}
		at += width
	}
	b.WriteByte('"')
	return b.String()
}

// escape is the form of a character that does not stand for itself, by its rune and its first byte, which is all that a wrong one has.
func escape(c rune, first byte) string {
	switch c {
	case '"':
		return `\"`
	case '\\':
		return `\\`
	case '\n':
		return `\n`
	case '\r':
		return `\r`
	case '\t':
		return `\t`
	case 0x85, 0x2028, 0x2029:
		return `\u{` + strconv.FormatInt(int64(c), 16) + `}`
	}
	return `\x` + string([]byte{sixteen[first>>4], sixteen[first&0xF]})
}

// plain says whether a right character stands for itself in a quoted text.
func plain(c rune) bool {
	switch c {
	case '"', '\\', 0x7F, 0x85, 0x2028, 0x2029:
		return false
	}
	return c >= 0x20
}
