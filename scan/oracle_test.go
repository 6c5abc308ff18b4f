package scan_test

import (
	"fmt"
	"math"
	"math/big"
	"regexp"
	"strconv"
	"strings"
	"unicode/utf8"

	"vellum/api"
)

// The chapter's words, told another way than the package goes: by prefixes that are held against forms.
var (
	runForm    = regexp.MustCompile(`^[a-z0-9._-]+`)
	digitsForm = regexp.MustCompile(`^(0|[1-9][0-9]*)$`)
	byteForm   = regexp.MustCompile(`^\\x[0-9a-f][0-9a-f]$`)
	runeForm   = regexp.MustCompile(`^\\u\{[0-9a-f]{1,6}\}$`)
	endForm    = regexp.MustCompile("\r\n|\n|\r|\u0085|\u2028|\u2029")
)

// toldPart is what p stands for, if it is one part of a quoted text as a whole.
func toldPart(p string) (string, bool) {
	switch {
	case p == `\"`, p == `\\`:
		return p[1:], true
	case p == `\n`:
		return "\n", true
	case p == `\r`:
		return "\r", true
	case p == `\t`:
		return "\t", true
	case byteForm.MatchString(p):
		n, _ := strconv.ParseUint(p[2:], 16, 8)
		return string([]byte{byte(n)}), true
	case runeForm.MatchString(p):
		n, _ := strconv.ParseUint(p[3:len(p)-1], 16, 32)
		return string(rune(n)), n < 0xD800 || n > 0xDFFF && n < 0x110000
	}
	if !utf8.ValidString(p) || utf8.RuneCountInString(p) != 1 {
		return "", false
	}
	return p, p >= " " && !strings.Contains("\"\\\x7F\u0085\u2028\u2029", p)
}

// widest is how many bytes the widest part has.
const widest = len(`\u{10ffff}`)

// toldQuoted reads a quoted text whose first mark stands at a place: what it stands for, where it ends; or where the fault is.
func toldQuoted(s string, at int) (text string, end int, ok bool) {
	at++
parts:
	for at < len(s) {
		if s[at] == '"' {
			return text, at + 1, true
		}
		for width := 1; width <= widest && at+width <= len(s); width++ {
			if value, is := toldPart(s[at : at+width]); is {
				text += value
				at += width
				continue parts
			}
		}
		break
	}
	return "", at, false
}

// toldNumber is the number that s is as a whole.
func toldNumber(s string) (int, bool) {
	if !digitsForm.MatchString(s) {
		return 0, false
	}
	n, _ := new(big.Int).SetString(s, 10)
	if n.Cmp(big.NewInt(math.MaxInt)) > 0 {
		return 0, false
	}
	return int(n.Int64()), true
}

// toldScan is the tokens of a line, or its fault.
func toldScan(line string) ([]api.Token, api.Fault) {
	if len(line) > 16384 {
		return nil, api.Fault{Code: 4}
	}
	var l []api.Token
	for at := 0; ; {
		rest := strings.TrimLeft(line[at:], "\x20\x09")
		begins := len(line) - len(rest)
		if rest == "" {
			return l, api.Fault{}
		}
		if at > 0 && begins == at {
			return nil, api.Fault{Code: 70, At: at}
		}
		run := runForm.FindString(rest)
		at = begins + len(run)
		if n, is := toldNumber(run); is {
			l = append(l, api.Token{Kind: 2, At: begins, Number: n})
		} else if run != "" {
			l = append(l, api.Token{Kind: 1, At: begins, Text: run})
		} else if rest[0] == '"' {
			text, end, ok := toldQuoted(line, begins)
			if !ok {
				return nil, api.Fault{Code: 71, At: end}
			}
			l = append(l, api.Token{Kind: 3, At: begins, Text: text})
			at = end
		} else {
			return nil, api.Fault{Code: 70, At: begins}
		}
	}
}

// toldUnquote is what s stands for, or its fault.
func toldUnquote(s string) (string, api.Fault) {
	if len(s) > 16384 {
		return "", api.Fault{Code: 4}
	}
	if !strings.HasPrefix(s, `"`) {
		return "", api.Fault{Code: 71}
	}
	text, end, ok := toldQuoted(s, 0)
	if !ok || end < len(s) {
		return "", api.Fault{Code: 71, At: end}
	}
	return text, api.Fault{}
}

// toldQuote is the one form of s.
func toldQuote(s string) string {
	form := `"`
	for len(s) > 0 {
		c, width := utf8.DecodeRuneInString(s)
		short := strings.IndexRune("\"\\\n\r\t", c)
		switch {
		case short >= 0:
			form += `\` + `"\nrt`[short:short+1]
		case c == utf8.RuneError && width == 1, c < 0x20, c == 0x7F:
			form += fmt.Sprintf(`\x%02x`, s[0])
		case c == 0x85 || c == 0x2028 || c == 0x2029:
			form += fmt.Sprintf(`\u{%x}`, c)
		default:
			form += s[:width]
		}
		s = s[width:]
	}
	return form + `"`
}

// row is a line that Lines tells.
type row struct {
	no   int
	text string
}

// toldLines is what Lines tells of a script.
func toldLines(script string) []row {
	var l []row
	for i, line := range endForm.Split(script, -1) {
		if says := strings.Trim(line, "\x20\x09"); says != "" && says[0] != '#' {
			l = append(l, row{i + 1, line})
		}
	}
	return l
}

// textsOf is all texts of up to most symbols, the empty one too.
func textsOf(symbols []string, most int) []string {
	l := []string{""}
	for from := 0; most > 0; most-- {
		to := len(l)
		for _, s := range l[from:to] {
			for _, x := range symbols {
				l = append(l, s+x)
			}
		}
		from = to
	}
	return l
}

func symbols(l ...string) []string { return l }

// manyTexts is all short texts of small alphabets: of lines, of escapes as they are written and as they go wrong, of characters in quotes that bytes cut.
func manyTexts() []string {
	var l []string
	for _, x := range []struct {
		ahead   string
		symbols []string
		most    int
	}{
		{"", symbols("a", "0", "7", "-", " ", "\t", `"`, ",", "A", "\xFF", "\n"), 4},
		{"", symbols(`"`, `\`, "n", "x", "u", "{", "}", "d", " "), 5},
		{`"`, symbols(`\x`, `\u{`, "0", "d8", "F", "}", `"`, `\`, "\xC3"), 5},
		{`a "`, symbols(`\u{`, "d7ff", "d800", "dfff", "e000", "10", "11", "}", `"`), 4},
		{`"`, symbols("\xC2", "\x85", "\xE2", "\x80", "\xA8", "\xA9", "\uFFFD", "\x7F", `"`), 4},
		{"", symbols("0", "1", "00", "9223372036854775807", "9223372036854775808", " ", ".", "_"), 4},
		{"", symbols(`"\"`, `\\`, `"`, " ", `\t`, `\r`, `\"`, "b"), 4},
		{"", symbols("#", "a", " ", "\t", "\n", "\r", "\u0085", "\u2028", "\u2029", "\xE2\x80"), 4},
	} {
		for _, s := range textsOf(x.symbols, x.most) {
			l = append(l, x.ahead+s)
			if x.ahead != "" {
				l = append(l, x.ahead+s+`"`)
			}
		}
	}
	return l
}
