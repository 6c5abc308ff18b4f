package scan_test

import (
	"fmt"
	"slices"
	"strings"
	"testing"
	"unicode/utf8"

	"vellum/api"
	"vellum/lines"
	"vellum/scan"
)

// checkScan holds Scan of a line against the chapter's words, and answers its tokens.
func checkScan(t *testing.T, line string) []api.Token {
	t.Helper()
	want, wrong := toldScan(line)
	got, fault := scanned(t, line)
	if !slices.Equal(got, want) || fault != wrong {
		t.Fatalf("Scan(%.60q) = %v, %v; not %v, %v", line, got, fault, want, wrong)
	}
	return got
}

// checkUnquote holds Unquote of a text against the chapter's words.
func checkUnquote(t *testing.T, s string) {
	t.Helper()
	want, wrong := toldUnquote(s)
	if got, fault := unquoted(t, s); got != want || fault != wrong {
		t.Fatalf("Unquote(%.60q) = %q, %v; not %q, %v", s, got, fault, want, wrong)
	}
}

// checkQuote holds Quote of a text against the chapter's words, and against what follows from them.
func checkQuote(t *testing.T, s string) {
	t.Helper()
	form := scan.Quote(s)
	if form != toldQuote(s) {
		t.Fatalf("Quote(%q) = %s", s, form)
	}
	for i := range len(form) {
		if form[i] < 0x20 {
			t.Fatalf("Quote(%q) has the byte %x", s, form[i])
		}
	}
	if lines.Count(form) != 1 || !utf8.ValidString(form) {
		t.Fatalf("Quote(%q) is no line: %q", s, form)
	}
	if back, fault := unquoted(t, form); back != s || fault != (api.Fault{}) {
		t.Fatalf("Unquote(%s) = %q, %v", form, back, fault)
	}
}

// without is tokens but for their At.
func without(l []api.Token) []api.Token {
	l = slices.Clone(l)
	for i := range l {
		l[i].At = 0
	}
	return l
}

// checkAgain: what Print makes of a line's tokens is read as the same, and printed as it stands; each token's bytes alone are that token.
func checkAgain(t *testing.T, line string, l []api.Token) {
	t.Helper()
	printed, e := scan.Print(l...)
	if e != api.OK || len(printed) > len(line) {
		t.Fatalf("Print of Scan(%q) = %q, %d", line, printed, e)
	}
	again, fault := scanned(t, printed)
	if !slices.Equal(without(again), without(l)) || fault != (api.Fault{}) {
		t.Fatalf("Scan(%q) = %v, %v; printed from %v", printed, again, fault, l)
	}
	if p, e := scan.Print(again...); p != printed || e != api.OK {
		t.Fatalf("Print of Scan(%q) = %q, %d", printed, p, e)
	}
	for i, x := range l {
		to := len(line)
		if i+1 < len(l) {
			to = l[i+1].At
		}
		x.At = 0
		cut := strings.TrimRight(line[l[i].At:to], " \t")
		if alone, fault := scanned(t, cut); !slices.Equal(alone, []api.Token{x}) || fault != (api.Fault{}) {
			t.Fatalf("Scan(%q) = %v, %v; out of %q", cut, alone, fault, line)
		}
	}
}

// P7.1, P7.3, P7.5: of all texts of the alphabets.
func TestEverywhere(t *testing.T) {
	texts, lists, quoted := 0, 0, 0
	for _, s := range manyTexts() {
		texts++
		if l := checkScan(t, s); len(l) > 0 {
			lists++
			checkAgain(t, s, l)
		}
		if text, _ := toldUnquote(s); text != "" {
			quoted++
		}
		checkUnquote(t, s)
		checkQuote(t, s)
	}
	if lists < texts/50 || quoted < texts/100 {
		t.Errorf("of %d texts %d have tokens, %d are quoted", texts, lists, quoted)
	}
}

// P7.1, P7.3: each two bytes in a line, in quotes, and in escapes.
func TestAllBytes(t *testing.T) {
	for a := range 256 {
		for b := range 256 {
			two := string([]byte{byte(a), byte(b)})
			for _, s := range []string{two, "a " + two, `"` + two, `"` + two + `"`, `"` + two + "\xA8\"", `"` + two + "\x80\x80\"", `"\` + two + `"`, `"\x` + two + `"`, `"\u` + two + `}"`, `"\u{` + two + `}"`, `"a"` + two} {
				if l := checkScan(t, s); len(l) > 0 {
					checkAgain(t, s, l)
				}
				checkUnquote(t, s)
			}
			checkQuote(t, two)
			checkQuote(t, "\xE2"+two)
		}
	}
}

// P7.3, P7.5: each rune, as it stands, in its one form and by its number; numbers that no character has.
func TestAllRunes(t *testing.T) {
	for c := rune(0); c <= 0x10FFFF; c++ {
		if !utf8.ValidRune(c) {
			continue
		}
		s := string(c)
		form := toldQuote(s)
		if got := scan.Quote(s); got != form {
			t.Fatalf("Quote of %x = %s", c, got)
		}
		if got, err := scan.Unquote(form); got != s || err != nil {
			t.Fatalf("Unquote(%s) = %q, %v", form, got, err)
		}
		_, stands := toldPart(s)
		plain := `"` + s + `"`
		if stands != (form == plain) {
			t.Fatalf("%x stands for itself: %v, but has the form %s", c, stands, form)
		}
		if got, err := scan.Unquote(plain); (err == nil) != stands || stands && got != s {
			t.Fatalf("Unquote(%q) = %q, %v", plain, got, err)
		}
		if got, err := scan.Unquote(fmt.Sprintf(`"\u{%x}"`, c)); got != s || err != nil {
			t.Fatalf("Unquote of the number %x = %q, %v", c, got, err)
		}
	}
	none := []int{0x110000, 0x110001, 0x1FFFFF, 0x200000, 0x800000, 0xFFFFFF}
	for c := 0xD800; c <= 0xDFFF; c++ {
		none = append(none, c)
	}
	for _, c := range none {
		for _, form := range []string{`"\u{%x}"`, `"\u{%06x}"`} {
			s := fmt.Sprintf(form, c)
			if text, fault := unquoted(t, s); text != "" || fault != (api.Fault{Code: api.ErrQuote, At: 1}) {
				t.Fatalf("Unquote(%s) = %q, %v", s, text, fault)
			}
		}
	}
}

// P7.2: of all texts of the alphabets.
func TestLinesEverywhere(t *testing.T) {
	for _, s := range manyTexts() {
		if got, want := rowsOf(s), toldLines(s); !slices.Equal(got, want) {
			t.Fatalf("Lines(%q) tells %v, not %v", s, got, want)
		}
	}
}

// P7.4, P7.5: all lists of up to three tokens out of some of each kind, and those that may not be among them.
func TestPrintEverywhere(t *testing.T) {
	var some []api.Token
	for kind := -1; kind <= 4; kind++ {
		for _, s := range symbols("", "a", "12", "007", "a.b_c-d", "A", "a b", "\xFF\n\"", "\u2028") {
			for _, n := range []int{-1, 0, 12} {
				some = append(some, api.Token{Kind: kind, At: 3, Text: s, Number: n})
			}
		}
	}
	for _, a := range some {
		checkPrint(t, a)
		for _, b := range some {
			checkPrint(t, a, b)
			if toldToken(a) != "" && toldToken(b) != "" {
				checkPrint(t, a, b, a)
			}
		}
	}
}

// toldToken is a token in a line; nothing, if it may not be.
func toldToken(x api.Token) string {
	_, is := toldNumber(x.Text)
	run := x.Text != "" && runForm.FindString(x.Text) == x.Text
	switch {
	case x.Kind == 1 && run && !is && x.Number == 0:
		return x.Text
	case x.Kind == 2 && x.Text == "" && x.Number >= 0:
		return fmt.Sprint(x.Number)
	case x.Kind == 3 && x.Number == 0:
		return toldQuote(x.Text)
	}
	return ""
}

func checkPrint(t *testing.T, l ...api.Token) {
	t.Helper()
	var want []string
	for _, x := range l {
		if s := toldToken(x); s != "" {
			want = append(want, s)
		}
	}
	got, e := scan.Print(l...)
	if len(want) < len(l) {
		if got != "" || e != api.ErrToken {
			t.Fatalf("Print(%v) = %q, %d", l, got, e)
		}
		return
	}
	if got != strings.Join(want, " ") || e != api.OK {
		t.Fatalf("Print(%v) = %q, %d", l, got, e)
	}
	if back, fault := scanned(t, got); !slices.Equal(without(back), without(l)) || fault != (api.Fault{}) {
		t.Fatalf("Scan(%q) = %v, %v; printed from %v", got, back, fault, l)
	}
}

// R1: texts as long as one may be; all calls go through them once.
func TestLongTexts(t *testing.T) {
	for _, x := range []struct {
		piece string
		form  string
	}{{"a", "a"}, {"\xFF", `\xff`}, {"\uFFFD\xEF\xBF", "\uFFFD" + `\xef\xbf`}, {"\n", `\n`}, {"\u2028", `\u{2028}`}, {`"\`, `\"\\`}, {"\U0001F600", "\U0001F600"}} {
		n := api.MaxText / len(x.piece)
		s := strings.Repeat(x.piece, n)
		if got := scan.Quote(s); got != `"`+strings.Repeat(x.form, n)+`"` {
			t.Errorf("Quote of %d times %q has %d bytes", n, x.piece, len(got))
		}
		if _, fault := scanned(t, s); fault != (api.Fault{Code: api.ErrLong}) {
			t.Errorf("Scan of %d times %q: %v", n, x.piece, fault)
		}
		if got, e := scan.Print(api.Token{Kind: api.TokText, Text: s}, api.Token{Kind: api.TokWord, Text: "a"}); got != "" || e != api.ErrLong {
			t.Errorf("Print of %d times %q: %d", n, x.piece, e)
		}
	}
	for _, piece := range symbols("a\n", "\n", " ", "#\r\n", " a\u2028", "\t#a\r", "\xFF\u0085", "\r") {
		s := strings.Repeat(piece, api.MaxText/len(piece))
		if got, want := rowsOf(s), toldLines(s); !slices.Equal(got, want) {
			t.Errorf("Lines of many times %q: %d, not %d", piece, len(got), len(want))
		}
	}
}
