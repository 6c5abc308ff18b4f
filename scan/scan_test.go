package scan_test

import (
	"errors"
	"math"
	"slices"
	"strings"
	"testing"
	"unsafe"

	"vellum/api"
	"vellum/scan"
)

func word(at int, s string) api.Token { return api.Token{Kind: api.TokWord, At: at, Text: s} }

func number(at, n int) api.Token { return api.Token{Kind: api.TokNumber, At: at, Number: n} }

func text(at int, s string) api.Token { return api.Token{Kind: api.TokText, At: at, Text: s} }

func tokens(l ...api.Token) []api.Token { return l }

// faultOf is the fault that an error is; none, if it is nil.
func faultOf(t *testing.T, err error) api.Fault {
	t.Helper()
	if err == nil {
		return api.Fault{}
	}
	var fault *api.Fault
	if !errors.As(err, &fault) || fault == nil || err != error(fault) || fault.Code == api.OK || !errors.Is(err, fault.Code) {
		t.Fatalf("the error %v is no fault", err)
	}
	return *fault
}

func scanned(t *testing.T, line string) ([]api.Token, api.Fault) {
	t.Helper()
	l, err := scan.Scan(line)
	if err != nil && len(l) > 0 {
		t.Fatalf("Scan(%.60q) answers tokens beside %v", line, err)
	}
	return l, faultOf(t, err)
}

func unquoted(t *testing.T, s string) (string, api.Fault) {
	t.Helper()
	text, err := scan.Unquote(s)
	if err != nil && text != "" {
		t.Fatalf("Unquote(%.60q) answers a text beside %v", s, err)
	}
	return text, faultOf(t, err)
}

func rowsOf(script string) []row {
	var l []row
	for no, line := range scan.Lines(script) {
		l = append(l, row{no, line})
	}
	return l
}

// P7.1: the rows of the examples; blanks of both kinds; runs that are numbers, and words that only look like them.
func TestScan(t *testing.T) {
	for _, x := range []struct {
		line string
		want []api.Token
	}{
		{`insert notes 12 "hi\n"`, tokens(word(0, "insert"), word(7, "notes"), number(13, 12), text(16, "hi\n"))},
		{"007 -1 9223372036854775808 0", tokens(word(0, "007"), word(4, "-1"), word(7, "9223372036854775808"), number(27, 0))},
		{"", nil}, {" ", nil}, {"\t", nil}, {" \t \t\t ", nil},
		{"  a", tokens(word(2, "a"))}, {"a  ", tokens(word(0, "a"))}, {"\ta\t", tokens(word(1, "a"))}, {"a\tb", tokens(word(0, "a"), word(2, "b"))}, {" \t a \t 1\t \"\" ", tokens(word(3, "a"), number(7, 1), text(10, ""))},
		{"az.09_-", tokens(word(0, "az.09_-"))}, {". _ - ... .- 1. .1", tokens(word(0, "."), word(2, "_"), word(4, "-"), word(6, "..."), word(10, ".-"), word(13, "1."), word(16, ".1"))}, {"-a a-", tokens(word(0, "-a"), word(3, "a-"))},
		{"0", tokens(number(0, 0))}, {"00", tokens(word(0, "00"))}, {"01", tokens(word(0, "01"))}, {"10 100", tokens(number(0, 10), number(3, 100))}, {"-0", tokens(word(0, "-0"))}, {"1a", tokens(word(0, "1a"))}, {"a1", tokens(word(0, "a1"))}, {"1_0", tokens(word(0, "1_0"))}, {"0x1f", tokens(word(0, "0x1f"))}, {"1e3", tokens(word(0, "1e3"))}, {"1.0", tokens(word(0, "1.0"))}, {"0b1 0o7", tokens(word(0, "0b1"), word(4, "0o7"))},
		{"9223372036854775806", tokens(number(0, math.MaxInt64-1))}, {"9223372036854775807", tokens(number(0, math.MaxInt64))}, {"09223372036854775807", tokens(word(0, "09223372036854775807"))}, {"9223372036854775809", tokens(word(0, "9223372036854775809"))}, {"9999999999999999999", tokens(word(0, "9999999999999999999"))}, {"18446744073709551616", tokens(word(0, "18446744073709551616"))}, {"18446744073709551617", tokens(word(0, "18446744073709551617"))}, {"10000000000000000000", tokens(word(0, "10000000000000000000"))}, {"1000000000000000000", tokens(number(0, 1000000000000000000))}, {"340282366920938463463374607431768211456", tokens(word(0, "340282366920938463463374607431768211456"))}, {"-9223372036854775808", tokens(word(0, "-9223372036854775808"))},
		{`""`, tokens(text(0, ""))}, {`"" ""`, tokens(text(0, ""), text(3, ""))}, {`"a b"`, tokens(text(0, "a b"))}, {`"#"`, tokens(text(0, "#"))}, {`"12" 12`, tokens(text(0, "12"), number(5, 12))}, {`"A,b" c`, tokens(text(0, "A,b"), word(6, "c"))}, {"1\t\"\u00E9\"", tokens(number(0, 1), text(2, "\u00E9"))},
	} {
		if got, fault := scanned(t, x.line); !slices.Equal(got, x.want) || fault != (api.Fault{}) {
			t.Errorf("Scan(%q) = %v, %v", x.line, got, fault)
		}
	}
}

// P7.1: the rows of the examples; what can't stand at the beginning, behind blanks, and behind a token; the first of several.
func TestStray(t *testing.T) {
	for _, x := range []struct {
		line string
		at   int
	}{
		{"a,b", 1}, {"A", 0}, {`"a"b`, 3}, {`a"b"`, 1},
		{",", 0}, {" ,", 1}, {"\t\tA", 2}, {"a ,", 2}, {"a  A", 3}, {"aB", 1}, {"a b,", 3}, {"12,", 2}, {"12A", 2}, {`1"`, 1}, {`""""`, 2}, {`"a""b"`, 3}, {`""1`, 2}, {`"",`, 2}, {`"" A`, 3},
		{"#", 0}, {" # a", 1}, {"a #", 2}, {"a#", 1}, {`\`, 0}, {`a\`, 1}, {`\"a"`, 0}, {"'a'", 0}, {"`a`", 0}, {"+1", 0}, {"@", 0}, {"[", 0}, {"{", 0}, {"z{", 1}, {"`", 0}, {"/", 0}, {"9:", 1}, {"9/", 1}, {"Z", 0}, {"a/b", 1}, {"a^", 1},
		{"\n", 0}, {"a\n", 1}, {"a \n", 2}, {"a\r", 1}, {"a\r\n", 1}, {"\x00", 0}, {"a\x00", 1}, {"\v", 0}, {"a\f", 1}, {"\x7F", 0}, {"\x1F", 0},
		{"\u00E9", 0}, {"a\u00E9", 1}, {"a \u00E9", 2}, {"\u00A0", 0}, {"a\u00A0b", 1}, {"a\u3000b", 1}, {"\u0085", 0}, {"a\u2028", 1}, {"\uFF11", 0}, {"1\u0661", 1}, {"\u212A", 0}, {"\uFFFD", 0},
		{"\xFF", 0}, {"a\xFF", 1}, {"a \xFF", 2}, {`""` + "\xFF", 2}, {"\x80", 0}, {"\xC3", 0}, {"a\xE2\x80", 1},
		{`A "`, 0}, {`a, "\q`, 1}, {`"a", "`, 3}, {", ,", 0},
	} {
		if got, fault := scanned(t, x.line); len(got) > 0 || fault != (api.Fault{Code: api.ErrToken, At: x.at}) {
			t.Errorf("Scan(%q) = %v, %v", x.line, got, fault)
		}
	}
}

// quotedTexts is each part of a quoted text, and what it stands for.
var quotedTexts = [][2]string{
	{`"a"`, "a"}, {`""`, ""}, {`" "`, " "}, {`"!"`, "!"}, {`"~"`, "~"}, {`"#/'{}[]"`, "#/'{}[]"}, {"\"\u0080\"", "\u0080"}, {"\"\u0084\u0086\"", "\u0084\u0086"}, {"\"\u00A0\u00E9\"", "\u00A0\u00E9"}, {"\"\u2027\u202A\"", "\u2027\u202A"}, {"\"\uFFFD\"", "\uFFFD"}, {"\"\uFEFF\"", "\uFEFF"}, {"\"\U0010FFFF\"", "\U0010FFFF"}, {"\"a\u0301\"", "a\u0301"}, {"\"\uD7FF\uE000\"", "\uD7FF\uE000"},
	{`"\""`, `"`}, {`"\\"`, `\`}, {`"\n"`, "\n"}, {`"\r"`, "\r"}, {`"\t"`, "\t"}, {`"\\n"`, `\n`}, {`"\\\n"`, "\\\n"}, {`"\"\""`, `""`}, {`"\\\""`, `\"`}, {`"n\nn"`, "n\nn"},
	{`"\x00"`, "\x00"}, {`"\x0a"`, "\n"}, {`"\x41"`, "A"}, {`"\x22"`, `"`}, {`"\x5c"`, `\`}, {`"\x7f"`, "\x7F"}, {`"\x80"`, "\x80"}, {`"\xff"`, "\xFF"}, {`"\xc3\xa9"`, "\u00E9"}, {`"\xe2\x80\xa8"`, "\u2028"}, {`"\x999"`, "\x999"}, {`"\xaff"`, "\xAFf"}, {`"\xed\xa0\x80"`, "\xED\xA0\x80"},
	{`"\u{0}"`, "\x00"}, {`"\u{a}"`, "\n"}, {`"\u{22}"`, `"`}, {`"\u{e9}"`, "\u00E9"}, {`"\u{0e9}"`, "\u00E9"}, {`"\u{0000e9}"`, "\u00E9"}, {`"\u{000000}"`, "\x00"}, {`"\u{7f}"`, "\x7F"}, {`"\u{85}"`, "\u0085"}, {`"\u{80}"`, "\u0080"}, {`"\u{ff}"`, "\u00FF"}, {`"\u{2028}\u{2029}"`, "\u2028\u2029"}, {`"\u{d7ff}"`, "\uD7FF"}, {`"\u{e000}"`, "\uE000"}, {`"\u{fffd}"`, "\uFFFD"}, {`"\u{ffff}"`, "\uFFFF"}, {`"\u{10000}"`, "\U00010000"}, {`"\u{10ffff}"`, "\U0010FFFF"}, {`"\u{41}}"`, "A}"}, {`"{\u{41}"`, "{A"},
}

// noQuotedTexts is each way in which a quoted text is none, and the place of the fault.
var noQuotedTexts = []struct {
	s  string
	at int
}{
	{`"a`, 2}, {`"\q"`, 1}, {`"a\x4"`, 2}, {`"\xAB"`, 1}, {`"\u{d800}"`, 1}, {`"\u{}"`, 1}, {`"\`, 1}, {"\"\xFF", 1},
	// The end is missing.
	{`"`, 1}, {`" `, 2}, {"\"\u00E9", 3}, {"\"\U0001F600", 5}, {`"\n`, 3}, {`"\"`, 3}, {`"\\`, 3}, {`"\x41`, 5}, {`"\u{41}`, 7}, {`"a b c`, 6}, {"\"\uFFFD", 4},
	// An escape that ends too early, or goes wrong.
	{`"a\`, 2}, {`"\n\`, 3}, {`"\x`, 1}, {`"\x4`, 1}, {`"\x"`, 1}, {`"\xg0"`, 1}, {`"\x0g"`, 1}, {`"\xA0"`, 1}, {`"\xaB"`, 1}, {`"\x4G"`, 1}, {`"\x{41}"`, 1}, {`"\x-1"`, 1}, {`"\x 1"`, 1}, {`"\x1 "`, 1}, {`"\x1/"`, 1}, {`"\x1:"`, 1}, {"\"\\x1`\"", 1}, {`"\x1@"`, 1}, {`"\x\x41"`, 1}, {"\"\\x4\xFF\"", 1}, {"\"\\x\u0661\u0661\"", 1},
	{`"\u`, 1}, {`"\u{`, 1}, {`"\u{4`, 1}, {`"\u{41`, 1}, {`"\u{41"`, 1}, {`"\u"`, 1}, {`"\u{"`, 1}, {`"\u41"`, 1}, {`"\u0041"`, 1}, {`"\u}"`, 1}, {`"\u(41)"`, 1}, {`"\u{g}"`, 1}, {`"\u{4g}"`, 1}, {`"\u{E9}"`, 1}, {`"\u{eA}"`, 1}, {`"\u{ 41}"`, 1}, {`"\u{41 }"`, 1}, {`"\u{+41}"`, 1}, {`"\u{-1}"`, 1}, {`"\u{4_1}"`, 1}, {`"\u{0x41}"`, 1}, {"\"\\u{\xFF}\"", 1}, {"\"\\u{4\u00E9}\"", 1}, {`"\u{1234567}"`, 1}, {`"\u{0000041}"`, 1}, {`"\u{00000000000000000041}"`, 1}, {`"\u{123456`, 1}, {`"\u{41]"`, 1},
	{`"\a"`, 1}, {`"\b"`, 1}, {`"\0"`, 1}, {`"\'"`, 1}, {`"\/"`, 1}, {`"\ "`, 1}, {`"\N"`, 1}, {`"\R"`, 1}, {`"\T"`, 1}, {`"\X41"`, 1}, {`"\U{41}"`, 1}, {`"\101"`, 1}, {`"\i"`, 1}, {"\"\\\n\"", 1}, {"\"\\\t\"", 1}, {"\"\\\xFF\"", 1}, {"\"\\\u00E9\"", 1}, {"\"\\\x00\"", 1}, {`"\\\"`, 5}, {`"\\\`, 3},
	// Numbers that no character has.
	{`"\u{dbff}"`, 1}, {`"\u{dc00}"`, 1}, {`"\u{dfff}"`, 1}, {`"\u{00d800}"`, 1}, {`"\u{110000}"`, 1}, {`"\u{ffffff}"`, 1}, {`"ab\u{d800}"`, 3}, {`"\u{d83d}\u{de00}"`, 1},
	// Characters that do not stand for themselves.
	{"\"\x00\"", 1}, {"\"\t\"", 1}, {"\"\n\"", 1}, {"\"\r\"", 1}, {"\"\x1F\"", 1}, {"\"\x7F\"", 1}, {"\"\u0085\"", 1}, {"\"\u2028\"", 1}, {"\"\u2029\"", 1}, {"\"a\tb\"", 2}, {"\"\u00E9\u2028\"", 3}, {"\"a\n", 2},
	// Wrong bytes, and what is right beside them.
	{"\"\xFF\"", 1}, {"\"\x80\"", 1}, {"\"\xC3\"", 1}, {"\"\xA9\"", 1}, {"\"a\xC3\"", 2}, {"\"\xE2\x80\"", 1}, {"\"\xE2\x80", 1}, {"\"\xC0\x80\"", 1}, {"\"\xED\xA0\x80\"", 1}, {"\"\xF4\x90\x80\x80\"", 1}, {"\"\uFFFD\xFF\"", 4}, {"\"\xFF\uFFFD\"", 1}, {"\"\uFFFD\xEF\xBF\"", 4}, {"\"\\xc3\xA9\"", 5}, {"\"\u00E9\xA9\"", 3}, {"\"\xF0\x9F\x98\"", 1}, {"\"\\xff\xFF\"", 5},
	// The first of several.
	{"\"\\q\xFF", 1}, {"\"\xFF\\q", 1}, {`"a\q\q"`, 2}, {"\"\n\\", 1},
}

// P7.1, P7.3: each part, alone, in a line, and among others.
func TestQuotedTexts(t *testing.T) {
	for _, x := range quotedTexts {
		if got, fault := unquoted(t, x[0]); got != x[1] || fault != (api.Fault{}) {
			t.Errorf("Unquote(%q) = %q, %v", x[0], got, fault)
		}
		line := " " + x[0] + " \tb"
		want := tokens(text(1, x[1]), word(len(line)-1, "b"))
		if got, fault := scanned(t, line); !slices.Equal(got, want) || fault != (api.Fault{}) {
			t.Errorf("Scan(%q) = %v, %v", line, got, fault)
		}
		among := `"x` + x[0][1:len(x[0])-1] + `y"`
		if got, fault := unquoted(t, among); got != "x"+x[1]+"y" || fault != (api.Fault{}) {
			t.Errorf("Unquote(%q) = %q, %v", among, got, fault)
		}
	}
}

// P7.1, P7.3: each way in which a quoted text is none, alone, and behind other tokens.
func TestNoQuotedTexts(t *testing.T) {
	for _, x := range noQuotedTexts {
		want := api.Fault{Code: api.ErrQuote, At: x.at}
		if got, fault := unquoted(t, x.s); got != "" || fault != want {
			t.Errorf("Unquote(%q) = %q, %v", x.s, got, fault)
		}
		if got, fault := scanned(t, x.s); len(got) > 0 || fault != want {
			t.Errorf("Scan(%q) = %v, %v", x.s, got, fault)
		}
		const ahead = "a 1 \"\u00E9\" "
		want.At += len(ahead)
		if got, fault := scanned(t, ahead+x.s); len(got) > 0 || fault != want {
			t.Errorf("Scan(%q) = %v, %v", ahead+x.s, got, fault)
		}
	}
}

// P7.3: what does not begin with its mark, and what stands behind a quoted text.
func TestUnquoteWhole(t *testing.T) {
	for _, x := range []struct {
		s  string
		at int
	}{
		{"a", 0}, {"", 0}, {` "a"`, 0}, {`a"b"`, 0}, {`\"a"`, 0}, {"'a'", 0}, {"\xFF\"a\"", 0}, {"12", 0}, {"\n\"\"", 0},
		{`"a" `, 3}, {`"a"b`, 3}, {`"a""b"`, 3}, {`"a" "b"`, 3}, {`"""`, 2}, {`"" `, 2}, {"\"\"\n", 2}, {"\"\"\xFF", 2}, {`"a\n"\`, 5}, {"\"\u00E9\"\u00E9", 4}, {`"a"\q`, 3},
	} {
		if got, fault := unquoted(t, x.s); got != "" || fault != (api.Fault{Code: api.ErrQuote, At: x.at}) {
			t.Errorf("Unquote(%q) = %q, %v", x.s, got, fault)
		}
	}
}

// P7.3: the row of the examples, and each kind of character.
func TestQuote(t *testing.T) {
	for _, x := range [][2]string{
		{"a\n\"\xFF\u00E9\u0085\x01", "\"a\\n\\\"\\xff\u00E9\\u{85}\\x01\""},
		{"", `""`}, {" ", `" "`}, {"a b", `"a b"`}, {"!#~", `"!#~"`}, {`"`, `"\""`}, {`\`, `"\\"`}, {"\n\r\t", `"\n\r\t"`}, {"\r\n", `"\r\n"`}, {`\n`, `"\\n"`},
		{"\x00\x01\x08\x0B\x0C\x0E\x0F\x10\x1F", `"\x00\x01\x08\x0b\x0c\x0e\x0f\x10\x1f"`}, {"\x1B[", `"\x1b["`}, {"\x7F", `"\x7f"`}, {"\x7E", `"~"`},
		{"\u0080\u0084\u0086\u009F", "\"\u0080\u0084\u0086\u009F\""}, {"\u0085", `"\u{85}"`}, {"\u2027\u2028\u2029\u202A", "\"\u2027\\u{2028}\\u{2029}\u202A\""}, {"\uFFFD", "\"\uFFFD\""}, {"\uFEFF\u00A0\u00AD", "\"\uFEFF\u00A0\u00AD\""}, {"\U0010FFFF\U0001F600", "\"\U0010FFFF\U0001F600\""},
		{"\xFF", `"\xff"`}, {"\xFF\uFFFD\xFE", "\"\\xff\uFFFD\\xfe\""}, {"\xEF\xBF", `"\xef\xbf"`}, {"\uFFFD\xEF\xBF\uFFFD", "\"\uFFFD\\xef\\xbf\uFFFD\""}, {"\xE2\x80", `"\xe2\x80"`}, {"\x85", `"\x85"`}, {"\xC2", `"\xc2"`}, {"\xC2\xC2\x85", `"\xc2\u{85}"`}, {"\xED\xA0\x80", `"\xed\xa0\x80"`}, {"\xF4\x90\x80\x80", `"\xf4\x90\x80\x80"`}, {"\xC0\x8A", `"\xc0\x8a"`}, {"\xE2\n\x80", `"\xe2\n\x80"`}, {"\x80\x9F\xA0\xBF", `"\x80\x9f\xa0\xbf"`},
	} {
		if got := scan.Quote(x[0]); got != x[1] {
			t.Errorf("Quote(%q) = %s", x[0], got)
		}
		if got, fault := unquoted(t, x[1]); got != x[0] || fault != (api.Fault{}) {
			t.Errorf("Unquote(%s) = %q, %v", x[1], got, fault)
		}
	}
}

// P7.1, P7.3: bytes are counted; a line of MaxLine bytes is one, whatever it holds, and one of a byte more is nothing but too long.
func TestLongLines(t *testing.T) {
	const most = 16384
	if api.MaxLine != most {
		t.Fatalf("MaxLine is %d", api.MaxLine)
	}
	run, blanks := strings.Repeat("a", most), strings.Repeat(" ", most)
	inner := strings.Repeat("a", most-2)
	wide := strings.Repeat("\u00E9", most/2-1)
	for _, x := range []struct {
		line string
		want []api.Token
	}{
		{run, tokens(word(0, run))}, {blanks, nil}, {`"` + inner + `"`, tokens(text(0, inner))}, {`"` + wide + `"`, tokens(text(0, wide))}, {blanks[1:] + "7", tokens(number(most-1, 7))}, {strings.Repeat("9", most), tokens(word(0, strings.Repeat("9", most)))}, {"1" + blanks[1:], tokens(number(0, 1))},
	} {
		if got, fault := scanned(t, x.line); !slices.Equal(got, x.want) || fault != (api.Fault{}) {
			t.Errorf("Scan(%.20q..): %d tokens, %v", x.line, len(got), fault)
		}
		for _, more := range symbols("a", " ", `"`, ",", "\xFF", `\`) {
			if got, fault := scanned(t, x.line+more); len(got) > 0 || fault != (api.Fault{Code: api.ErrLong}) {
				t.Errorf("Scan(%.20q..%q): %d tokens, %v", x.line, more, len(got), fault)
			}
		}
	}
	if got, fault := unquoted(t, `"`+inner+`"`); got != inner || fault != (api.Fault{}) {
		t.Errorf("Unquote of MaxLine bytes: %d bytes, %v", len(got), fault)
	}
	for _, s := range symbols(`"a`+inner+`"`, `"`+inner+`" `, run+"a", `"\q`+inner, "\""+inner+"\xFF\"", strings.Repeat(`"`, most+1)) {
		if got, fault := unquoted(t, s); got != "" || fault != (api.Fault{Code: api.ErrLong}) {
			t.Errorf("Unquote(%.20q..): %d bytes, %v", s, len(got), fault)
		}
	}
	if got, fault := scanned(t, `"`+run[1:]); len(got) > 0 || fault != (api.Fault{Code: api.ErrQuote, At: most}) {
		t.Errorf("Scan of MaxLine bytes without the closing mark: %v", fault)
	}
	if got, fault := scanned(t, run[1:]+","); len(got) > 0 || fault != (api.Fault{Code: api.ErrToken, At: most - 1}) {
		t.Errorf("Scan of MaxLine bytes, the last one wrong: %v", fault)
	}
	if l, fault := scanned(t, strings.Repeat("7 ", most/2)); len(l) != most/2 || l[most/2-1] != number(most-2, 7) || fault != (api.Fault{}) {
		t.Errorf("Scan of as many tokens as can be: %d, %v", len(l), fault)
	}
}

// P7.2: the row of the examples; blanks ahead and behind; line ends of each kind; remarks; numbers count all lines.
func TestLines(t *testing.T) {
	for _, x := range []struct {
		script string
		want   []row
	}{
		{"# x\na\n\n  b", []row{{2, "a"}, {4, "  b"}}},
		{"", nil}, {"\n", nil}, {" \t", nil}, {"#", nil}, {" \t#", nil}, {"#a\n#\n", nil}, {"a", []row{{1, "a"}}}, {"a\n", []row{{1, "a"}}}, {"\na", []row{{2, "a"}}},
		{" \ta \t", []row{{1, " \ta \t"}}}, {"a # b", []row{{1, "a # b"}}}, {"a#", []row{{1, "a#"}}}, {"\t # a\n\tb", []row{{2, "\tb"}}}, {"\"#\"", []row{{1, "\"#\""}}}, {",", []row{{1, ","}}}, {"//", []row{{1, "//"}}},
		{"a\nb\rc\r\nd\u0085e\u2028f\u2029g", []row{{1, "a"}, {2, "b"}, {3, "c"}, {4, "d"}, {5, "e"}, {6, "f"}, {7, "g"}}},
		{"\n\r\n\r\n\r\r\u0085\u2028\u2029x", []row{{9, "x"}}}, {"a\n\rb", []row{{1, "a"}, {3, "b"}}}, {"a\r\r\nb", []row{{1, "a"}, {3, "b"}}}, {"#\ra", []row{{2, "a"}}}, {"#\u2028a", []row{{2, "a"}}}, {"#\u0085a", []row{{2, "a"}}}, {"#a\r\n#b\u2029c", []row{{3, "c"}}},
		{"\v\n\f\n\x00\n\u00A0\n\u3000", []row{{1, "\v"}, {2, "\f"}, {3, "\x00"}, {4, "\u00A0"}, {5, "\u3000"}}}, {"\u00A0#", []row{{1, "\u00A0#"}}},
		{"\xFF\n\xC2\n\x85\xE2\x80\n\xA8", []row{{1, "\xFF"}, {2, "\xC2"}, {3, "\x85\xE2\x80"}, {4, "\xA8"}}}, {"#\xFF\n \xFF#", []row{{2, " \xFF#"}}}, {"\uFFFD", []row{{1, "\uFFFD"}}},
	} {
		if got := rowsOf(x.script); !slices.Equal(got, x.want) {
			t.Errorf("Lines(%q) tells %v", x.script, got)
		}
	}
}

// R7: left early behind each line, and gone through again; within itself, too.
func TestLinesAgain(t *testing.T) {
	script := "a\n#\r\nb\n\n c\u2028d"
	whole := toldLines(script)
	all := scan.Lines(script)
	for stop := range len(whole) + 1 {
		var got []row
		for no, line := range all {
			if len(got) == stop {
				break
			}
			got = append(got, row{no, line})
		}
		if !slices.Equal(got, whole[:stop]) {
			t.Errorf("left behind %d lines: %v", stop, got)
		}
	}
	n := 0
	for range all {
		for range all {
			n++
		}
	}
	if n != len(whole)*len(whole) {
		t.Errorf("within itself %d lines", n)
	}
	n = 0
	all(func(int, string) bool {
		n++
		return false
	})
	if n != 1 {
		t.Errorf("told %d lines where one was wanted", n)
	}
}

// P7.4: the rows of the examples; each kind of token; At counts for nothing.
func TestPrint(t *testing.T) {
	for _, x := range []struct {
		l    []api.Token
		want string
	}{
		{tokens(word(0, "a"), number(0, 5), text(0, "b c")), `a 5 "b c"`}, {nil, ""}, {tokens(), ""},
		{tokens(word(9, "a"), word(-1, "b"), word(math.MaxInt, "c"), word(math.MinInt, "d")), "a b c d"}, {tokens(number(-7, 0)), "0"}, {tokens(number(0, math.MaxInt)), "9223372036854775807"}, {tokens(number(3, 10), number(3, 100)), "10 100"},
		{tokens(word(0, "007"), word(0, "-1"), word(0, "9223372036854775808"), word(0, "00"), word(0, "-0"), word(0, ".")), "007 -1 9223372036854775808 00 -0 ."}, {tokens(word(0, "az.09_-")), "az.09_-"},
		{tokens(text(0, "")), `""`}, {tokens(text(5, ""), text(5, "")), `"" ""`}, {tokens(text(0, "12"), text(0, "a")), `"12" "a"`}, {tokens(text(0, "a\n\"\xFF\u00E9\u0085\x01")), "\"a\\n\\\"\\xff\u00E9\\u{85}\\x01\""},
	} {
		given := slices.Clone(x.l)
		if got, e := scan.Print(x.l...); got != x.want || e != api.OK {
			t.Errorf("Print(%v) = %q, %d", x.l, got, e)
		}
		if !slices.Equal(given, x.l) {
			t.Errorf("Print made %v of %v", x.l, given)
		}
	}
}

// P7.4: each way in which a token may not be, alone, ahead of others, among them, and as the last one.
func TestPrintNoToken(t *testing.T) {
	none := tokens(word(0, "A"), word(0, "12"), word(0, "0"), word(0, "9223372036854775807"), word(0, ""), word(0, " "), word(0, "a "), word(0, " a"), word(0, "a b"), word(0, "a,b"), word(0, "a\n"), word(0, `"a"`), word(0, "\u00E9"), word(0, "\xFF"), word(0, "a\xFF"), word(0, "a\x00"), word(0, "#"), word(0, "a\t"), word(0, "+1"),
		number(0, -1), number(0, math.MinInt),
		api.Token{}, api.Token{Text: "a"}, api.Token{Number: 1}, api.Token{Kind: 4}, api.Token{Kind: 4, Text: "a"}, api.Token{Kind: -1, Text: "a"}, api.Token{Kind: math.MaxInt, Text: "a"}, api.Token{Kind: math.MinInt},
		api.Token{Kind: api.TokWord, Text: "a", Number: 1}, api.Token{Kind: api.TokWord, Text: "a", Number: -1}, api.Token{Kind: api.TokWord, Number: 1}, api.Token{Kind: api.TokNumber, Text: "1"}, api.Token{Kind: api.TokNumber, Text: "a", Number: 1}, api.Token{Kind: api.TokNumber, Text: "1", Number: 1}, api.Token{Kind: api.TokText, Number: 1}, api.Token{Kind: api.TokText, Text: "a", Number: -1})
	a := word(0, "a")
	for _, x := range none {
		for _, l := range [][]api.Token{{x}, {x, a}, {a, x}, {a, x, a}, {word(0, strings.Repeat("a", 20000)), x}, {x, text(0, strings.Repeat("a", 20000))}} {
			if got, e := scan.Print(l...); got != "" || e != api.ErrToken {
				t.Errorf("Print(%.60v) = %.60q, %d", l, got, e)
			}
		}
	}
}

// P7.4: bytes of the line are counted, as they are printed, the blanks too.
func TestPrintLong(t *testing.T) {
	const most = 16384
	of := strings.Repeat
	for _, x := range []struct {
		l    []api.Token
		size int
	}{
		{tokens(word(0, of("a", most))), most}, {tokens(word(0, of("a", most+1))), most + 1}, {tokens(word(0, of("9", most))), most}, {tokens(word(0, of("9", most+1))), most + 1},
		{tokens(text(0, of("a", most-2))), most}, {tokens(text(0, of("a", most-1))), most + 1}, {tokens(text(0, of("\n", most/2-1))), most}, {tokens(text(0, of("\n", most/2))), most + 2}, {tokens(text(0, of("\xFF", most/4-1)+"ab")), most}, {tokens(text(0, of("\xFF", most/4-1)+"abc")), most + 1}, {tokens(text(0, of("\u2028", most/8-1)+"abcdef")), most}, {tokens(text(0, of("\u2028", most/8))), most + 2},
		{slices.Repeat(tokens(number(0, 7)), most/2), most - 1}, {append(slices.Repeat(tokens(number(0, 7)), most/2-1), number(0, 77)), most}, {append(slices.Repeat(tokens(number(0, 7)), most/2-1), number(0, 777)), most + 1}, {slices.Repeat(tokens(number(0, 7)), most/2+1), most + 1}, {slices.Repeat(tokens(text(0, "")), most), 3*most - 1},
		{tokens(word(0, of("a", most)), word(0, "b")), most + 2}, {tokens(word(0, "b"), word(0, of("a", most))), most + 2}, {tokens(word(0, of("a", most-2)), word(0, "b")), most}, {tokens(word(0, of("a", most-1)), word(0, "b")), most + 1},
	} {
		got, e := scan.Print(x.l...)
		if x.size > most {
			if got != "" || e != api.ErrLong {
				t.Errorf("Print of a line of %d bytes: %d bytes, %d", x.size, len(got), e)
			}
			continue
		}
		if len(got) != x.size || e != api.OK {
			t.Errorf("Print of a line of %d bytes: %d bytes, %d", x.size, len(got), e)
		}
		if back, fault := scanned(t, got); !slices.Equal(without(back), without(x.l)) || fault != (api.Fault{}) {
			t.Errorf("Scan of a printed line of %d bytes: %d tokens, %v", x.size, len(back), fault)
		}
	}
}

// within says whether a text lies in the memory of another one.
func within(s, whole string) bool {
	at, from := uintptr(unsafe.Pointer(unsafe.StringData(s))), uintptr(unsafe.Pointer(unsafe.StringData(whole)))
	return s != "" && at >= from && at < from+uintptr(len(whole))
}

// R5: what is answered, and what Lines tells, is new memory; two answers share nothing.
func TestAnswersAreNew(t *testing.T) {
	line := `insert "plain text" 007`
	a, _ := scanned(t, line)
	b, _ := scanned(t, line)
	for i := range a {
		if within(a[i].Text, line) || within(a[i].Text, b[i].Text) {
			t.Errorf("the token %v shares memory", a[i])
		}
	}
	a[0] = api.Token{}
	if b[0] != word(0, "insert") {
		t.Errorf("two answers share memory: %v", b[0])
	}
	script := "whole line\nand another"
	for no, s := range scan.Lines(script) {
		if within(s, script) {
			t.Errorf("line %d shares memory with the script", no)
		}
	}
	quoted := `"plain"`
	if s, _ := unquoted(t, quoted); within(s, quoted) {
		t.Errorf("%q shares memory with what it was read from", s)
	}
	given := tokens(word(0, "word"))
	if s, _ := scan.Print(given...); within(s, given[0].Text) {
		t.Errorf("%q shares memory with the token", s)
	}
}

// R6: the same again, whatever was asked between.
func TestSameAgain(t *testing.T) {
	for range 3 {
		for _, line := range symbols(`a 1 "b\n"`, "A", `"\q"`, "") {
			checkScan(t, line)
			checkUnquote(t, line)
			checkQuote(t, line)
		}
	}
}
