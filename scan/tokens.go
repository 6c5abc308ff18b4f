package scan

import (
	"strconv"
	"strings"

	"vellum/api"
)

func isBlank(b byte) bool { return b == ' ' || b == '\t' }

// inRun says whether b may stand in a run.
func inRun(b byte) bool {
	return b >= 'a' && b <= 'z' || b >= '0' && b <= '9' || b == '.' || b == '_' || b == '-'
}

// isRun says whether s is a run, and nothing else.
func isRun(s string) bool {
	r := reader{text: s}
	return r.skip(inRun) && r.done()
}

// number is the number that a run says, and whether it is one. A number is written in one way only: what is not printed as it stands has a sign or a 0 ahead, and is a word.
func number(run string) (int, bool) {
	n, err := strconv.Atoi(run)
	if err != nil || n < 0 || strconv.Itoa(n) != run {
		return 0, false
	}
	return n, true
}

// said is the token of a run.
func said(run string, at int) api.Token {
	if n, is := number(run); is {
		return api.Token{Kind: api.TokNumber, At: at, Number: n}
	}
	// As a text of its own: a part of the line would keep the whole of it in memory.
	return api.Token{Kind: api.TokWord, At: at, Text: strings.Clone(run)}
}

// mayBe says whether some line has the token t.
func mayBe(t api.Token) bool {
	switch t.Kind {
	case api.TokWord:
		_, is := number(t.Text)
		return isRun(t.Text) && !is && t.Number == 0
	case api.TokNumber:
		return t.Text == "" && t.Number >= 0
	case api.TokText:
		return t.Number == 0
	}
	return false
}

// printed is how a token that may be stands in a line.
func printed(t api.Token) string {
	switch t.Kind {
	case api.TokNumber:
		return strconv.Itoa(t.Number)
	case api.TokText:
		return Quote(t.Text)
	}
	return t.Text
}
