package seek_test

import (
	"errors"
	"math"
	"slices"
	"strings"
	"testing"
	"unsafe"

	"vellum/api"
	"vellum/seek"
)

func compiled(t *testing.T, p string) *seek.Pattern {
	t.Helper()
	x, err := seek.Compile(p)
	if x == nil || err != nil {
		t.Fatalf("Compile(%q): %v, %v", p, x, err)
	}
	return x
}

func piecesOf(p *seek.Pattern, s string) []api.Piece {
	var l []api.Piece
	for x := range p.All(s) {
		l = append(l, x)
	}
	return l
}

// spansOf is pieces as pairs of numbers.
func spansOf(l []api.Piece) []span {
	var spans []span
	for _, x := range l {
		spans = append(spans, span{x.From, x.To})
	}
	return spans
}

// faultOf is the fault of a pattern; none, if it is one.
func faultOf(t *testing.T, p string) (api.Fault, bool) {
	t.Helper()
	x, err := seek.Compile(p)
	if (x == nil) == (err == nil) {
		t.Fatalf("Compile(%q): %v, %v", p, x, err)
	}
	if err == nil {
		return api.Fault{}, false
	}
	fault, is := err.(*api.Fault)
	if !is || fault == nil || !errors.Is(err, fault.Code) {
		t.Fatalf("Compile(%q): the error %v is no fault", p, err)
	}
	return *fault, true
}

// P6.1: the rows of the examples; each way in which a character can't stand, with what came ahead and behind.
func TestFaults(t *testing.T) {
	for _, x := range []struct {
		p  string
		at int
	}{
		{"*", 0}, {"a**", 2}, {"[]", 1}, {"[b-a]", 3}, {"[a", 2}, {`\q`, 1}, {`\x8g`, 3}, {`\u{d800}`, 7}, {"^+", 1}, {`[a-\w]`, 4}, {`a\i`, 2},
		// Behind none of the atoms.
		{"+", 0}, {"?", 0}, {"*[", 0}, {`\i*`, 2}, {`\i+`, 2}, {`\i?a`, 2}, {"^*", 1}, {"^?", 1}, {"$*", 1}, {"$+", 1}, {"$?", 1}, {"a^*", 2}, {"a$?", 2},
		{"a*+", 2}, {"a*?", 2}, {"a+*", 2}, {"a++", 2}, {"a+?", 2}, {"a?*", 2}, {"a?+", 2}, {"a??", 2}, {"\u00E9**", 3}, {"\xFF*?", 2}, {"[a]+*", 4}, {`\w**`, 3}, {".*+", 2}, {`\x41?+`, 5}, {`\u{41}??`, 7},
		// Behind a `\`.
		{`\`, 1}, {`a\`, 2}, {`\i\`, 3}, {`\i\i`, 3}, {`^\i`, 2}, {`\\\i`, 3}, {`[\i]`, 2}, {`\I`, 1}, {`\N`, 1}, {`\R`, 1}, {`\T`, 1}, {`\X41`, 1}, {`\U{41}`, 1}, {`\d`, 1}, {`\b`, 1}, {`\0`, 1}, {`\9`, 1}, {`\ `, 1}, {"\\\n", 1}, {"\\\x00", 1}, {"\\\x7F", 1}, {"\\\x1F", 1},
		{"\\\u00E9", 1}, {"\\\xFF", 1}, {"\u00E9\\\u00E9", 3}, {"\xFF\\\xFE", 2}, {"\\\uFFFD", 1}, {"[\\\u00E9]", 2}, {`[\`, 2}, {`[a-\`, 4}, {`[a-\q]`, 4}, {`[\d]`, 2},
		// Digits and brackets.
		{`\x`, 2}, {`\x4`, 3}, {`\xg1`, 2}, {`\x{41}`, 2}, {`\x4{`, 3}, {`\x4G`, 3}, {`\x4/`, 3}, {`\x4:`, 3}, {`\x4@`, 3}, {"\\x4`", 3}, {"\\x4\xFF", 3}, {"\\x\u0661", 2}, {`\x-1`, 2}, {`[\x4]`, 4}, {`\x*`, 2}, {`\x4*`, 3},
		{`\u`, 2}, {`\u{`, 3}, {`\u{4`, 4}, {`\u{41`, 5}, {`\u41`, 2}, {`\u}`, 2}, {`\u{}`, 3}, {`\u{g}`, 3}, {`\u{4g}`, 4}, {`\u{4 }`, 4}, {`\u{ 4}`, 3}, {`\u{-1}`, 3}, {`\u{+1}`, 3}, {`\u{4]`, 4}, {`\u(41)`, 2}, {"\\u{4\xFF}", 4}, {"\\u{\u00E9}", 3}, {`\u{G}`, 3}, {`\u{/}`, 3}, {`\u{:}`, 3}, {`\u{@}`, 3}, {"\\u{`}", 3},
		{`\u{123456`, 9}, {`\u{1234567}`, 9}, {`\u{0000041}`, 9}, {`\u{000041g`, 9}, {`\u{1234567`, 9},
		// Runes that may not be.
		{`\u{D800}`, 7}, {`\u{dbff}`, 7}, {`\u{DC00}`, 7}, {`\u{dfff}`, 7}, {`\u{00dfff}`, 9}, {`\u{110000}`, 9}, {`\u{ffffff}`, 9}, {`\u{FFFFFF}*`, 9}, {`[\u{d800}]`, 8}, {`[a-\u{d800}]`, 10}, {`\u{110000`, 9}, {`\u{d800`, 7},
		// Sets without an element, or that do not end.
		{"[", 1}, {"[^", 2}, {"[^]", 2}, {"[]a]", 1}, {"[^]a]", 2}, {"[]]", 1}, {"[a-", 3}, {"[a-b", 4}, {`[\]`, 3}, {`[\w`, 3}, {"[^^", 3}, {"a[", 2}, {"[[]*[", 5}, {`\i[]`, 3}, {"[a\u00E9", 4}, {"[\xFF", 2},
		// A `-` that stands behind no single character, or behind a range's end.
		{"[-a]", 1}, {"[-]", 1}, {"[^-]", 2}, {"[^-a]", 2}, {"[a-]", 3}, {"[a--]", 3}, {"[a--b]", 3}, {"[--a]", 1}, {"[a-b-c]", 4}, {"[a-b-]", 4}, {`[\w-a]`, 3}, {`[\W-]`, 3}, {`[\s-z]`, 3}, {`[\S-z]`, 3}, {"[a\\w-b]", 4}, {`[+--]`, 3}, {"[a-b\u00E9-]", 7}, {"[\u00E9-\u00EA-]", 6},
		// Ends of ranges.
		{`[a-\W]`, 4}, {`[a-\s]`, 4}, {`[a-\S]`, 4}, {"[\xFF-\\w]", 4}, {`[z-\w`, 4}, {"[a-\u00E9-\u00EA]", 5},
		{"[b-\\x61]", 6}, {"[b-\\u{61}]", 8}, {"[b-\\u{000061}]", 12}, {"[~-\\-]", 4}, {"[~-\\t]", 4}, {"[\u00E9-\u00E8]", 4}, {"[\u00E9-a]", 4}, {"[\U0001F600-\uFFFD]", 6}, {"[ab-a]", 4}, {"[a-cb-a]", 6}, {"[^b-a]", 4}, {"[\\x62-a]", 6}, {"[\\u{62}-\\x61]", 11}, {"[]-a]", 1}, {"[^^-]]", 4}, {"[^b-^]", 4},
		{"[\xFF-a]", 3}, {"[a-\xFF]", 3}, {"[\xFE-\xFF]", 3}, {"[\xFF-\xFF]", 3}, {"[a-\\xff]", 6}, {"[\\xff-a]", 6}, {"[\\x80-\\xff]", 9}, {"[\\xff-\uFFFD]", 6}, {"[\xFF-\\u{fffd}]", 10}, {"[a-\xC3]", 3}, {"[a-\xE2\x82]", 3}, {"[\xFF-]", 3}, {"[\xFF-", 3}, {"[\xFF--]", 3},
		{"[\xFF-\\x4", 6}, {"[\xFF-\\x4g]", 6}, {"[b-\\x6", 6}, {"[b-\\u{6", 7},
		// The first of several.
		{"[b-a][", 3}, {`\q*`, 1}, {"a**[", 2}, {`[a-\w-]`, 4}, {"*\xFF", 0},
	} {
		if fault, is := faultOf(t, x.p); !is || fault != (api.Fault{Code: api.ErrPattern, At: x.at}) {
			t.Errorf("Compile(%q): %v at %d, not at %d", x.p, fault.Code, fault.At, x.at)
		}
	}
}

// P6.1: what a pattern may be, and that Text tells it.
func TestPatterns(t *testing.T) {
	for _, p := range []string{
		"", `\i`, "a", "]", "-", "{", "}", "]*", "-+", "{2}", "a-b", "i", `\\i`, `\i\\i`, `\i^`, "^", "$", "^^$$", "$^", "a^b$c", "^a*$", "|", "(a)", ",", " ", "\n", "\x00", "\x7F",
		"[a]", "[^a]", "[^^]", "[a^]", "[a^-z]", "[^^-a]", `[\^]`, `[\]]`, `[\-]`, `[\\]`, "[.]", "[*+?]", "[$]", "[[]", "[[-a]", "[a-a]", "[a-z0-9]", `[+-\-]`, `[\--\-]`, `[\w]`, `[\w\W\s\S]`, `[a\w]`, `[\wa-b]`, `[^\w]`, "[\xFF]", "[^\xFF\xFE]", "[\n]", `[\n\r\t]`, `[\t-\r]`, "[ -~]", "[a-\u00E9]", "[\u00E9-\u00EA]", `[\x41-\x5A]`, `[\u{0}-\u{10ffff}]`, `[\xff]`, `[a]]`, `[a][b]`, `[\u{d7ff}-\u{e000}]`, "[\uFFFD-\uFFFD]",
		`\x00`, `\x7f`, `\x80`, `\xfF`, `\xFF*`, `\u{0}`, `\u{41}`, `\u{000041}`, `\u{10FFFF}`, `\u{10ffff}`, `\u{d7ff}`, `\u{e000}`, `\u{D7FF}+`, `\u{1F600}?`, `\n\r\t`, `\w\W\s\S`, `\w*\W+\s?\S`, ".*.+.?", `\.\[\]\*\+\?\^\$\\`, `\!\"\#\%\&\'\(\)\,\-\/\:\;\<\=\>\@\_\{\|\}\~` + "\\`",
		"\xFF", "\xFF*", "\xC3\xA9", "\xC3", "\xE2\x82", "\uFFFD", "\U0001F600+", "\u00E9?", "a\u0301*",
	} {
		if fault, is := faultOf(t, p); is {
			t.Errorf("Compile(%q): %v at %d", p, fault.Code, fault.At)
			continue
		}
		if got := compiled(t, p).Text(); got != p {
			t.Errorf("Text of %q is %q", p, got)
		}
	}
}

// P6.1: bytes are counted, not characters or items; a text that is too long is nothing else, too.
func TestLongPatterns(t *testing.T) {
	for _, p := range []string{strings.Repeat("a", 256), strings.Repeat("\u00E9", 128), strings.Repeat("\xFF", 256), strings.Repeat("^", 256), strings.Repeat("a+", 128), "[" + strings.Repeat("a", 254) + "]", `\i` + strings.Repeat(".", 254)} {
		if x := compiled(t, p); x.Text() != p {
			t.Errorf("Text of %.20q.. is %.20q..", p, x.Text())
		}
	}
	for _, p := range []string{strings.Repeat("a", 257), strings.Repeat("\u00E9", 128) + "a", strings.Repeat("*", 257), "[" + strings.Repeat("a", 256), strings.Repeat("\xFF", 257), strings.Repeat("\u00E9", 129), strings.Repeat("a", 1<<20)} {
		if fault, is := faultOf(t, p); !is || fault != (api.Fault{Code: api.ErrLong}) {
			t.Errorf("Compile of %d bytes: %v at %d", len(p), fault.Code, fault.At)
		}
	}
	if fault, is := faultOf(t, strings.Repeat("a", 255)+"["); !is || fault != (api.Fault{Code: api.ErrPattern, At: 256}) {
		t.Errorf("Compile of 256 bytes that end too early: %v at %d", fault.Code, fault.At)
	}
	if to, is := compiled(t, strings.Repeat("a", 256)).Match(strings.Repeat("a", 300), 3); to != 259 || !is {
		t.Errorf("256 characters match up to %d, %v", to, is)
	}
}

// R5: a pattern does not hang on the text it was compiled from.
func TestTextIsNotKept(t *testing.T) {
	b := []byte("ab[c-d]")
	p := compiled(t, unsafe.String(&b[0], len(b)))
	clear(b)
	if to, is := p.Match("abd", 0); p.Text() != "ab[c-d]" || to != 3 || !is {
		t.Errorf("behind a change Text is %q, and it matches up to %d, %v", p.Text(), to, is)
	}
}

// P6.2: the rows of the examples; each kind of atom and how often it may be; wrong bytes, and what only looks like them; places that are none.
func TestMatch(t *testing.T) {
	const no = -1
	for _, x := range []struct {
		p, s   string
		at, to int
	}{
		{"a*b", "aaab", 0, 4}, {"a*b", "aaab", 1, 4}, {"a*b", "aaac", 0, no}, {"a*", "aaab", 0, 3}, {"a*", "b", 0, 0},
		// How often.
		{"a", "a", 0, 1}, {"a", "b", 0, no}, {"a", "", 0, no}, {"a+", "aaa", 0, 3}, {"a+", "b", 0, no}, {"a+", "", 0, no}, {"a?", "aa", 0, 1}, {"a?", "b", 0, 0}, {"a*", "", 0, 0}, {"a?a", "a", 0, 1}, {"a?a", "aa", 0, 2}, {"a*a", "aaa", 0, 3}, {"a+a", "a", 0, no}, {"a+a", "aa", 0, 2}, {"a+a+a", "aa", 0, no}, {"ab?b", "ab", 0, 2},
		{"a*ab", "aaab", 0, 4}, {".*b", "abab", 0, 4}, {".*b", "ababc", 0, 4}, {".*.*b.*", "aab", 0, 3}, {"[ab]*a[ab][ab]", "abbaba", 0, 6}, {"[ab]*a[ab][ab]", "abbbabb", 0, 7}, {"[ab]*a[ab][ab]", "abbb", 0, 3}, {"a*b?a*", "aabaa", 0, 5}, {"a?b?c?", "ac", 0, 2},
		// Places, and what is none.
		{"", "", 0, 0}, {"", "a", 1, 1}, {"", "a", 2, no}, {"", "a", no, no}, {"", "\u00E9", 1, no}, {"", "\u00E9", 2, 2}, {".", "\u00E9", 1, no}, {"\xA9", "\u00E9", 1, no}, {`\xa9`, "\u00E9", 1, no}, {"", "\U0001F600", 1, no}, {"", "\U0001F600", 2, no}, {"", "\U0001F600", 3, no}, {"", "\U0001F600", 4, 4}, {"", "\xE2\x82", 1, 1}, {"", "a", math.MinInt, no}, {"", "a", math.MaxInt, no}, {".*", "a", math.MaxInt, no}, {"a", "a", 1, no}, {"\\i", "ab", 1, 1},
		// The point.
		{".", "\n", 0, no}, {".", "\r", 0, no}, {".", "\u0085", 0, no}, {".", "\u2028", 0, no}, {".", "\u2029", 0, no}, {".", "\x85", 0, 1}, {".", "\v", 0, 1}, {".", "\f", 0, 1}, {".", "\x00", 0, 1}, {".", "\uFFFD", 0, 3}, {".", "\xE2", 0, 1}, {"..", "\xE2\x80", 0, 2}, {"...", "\xE2\x80\xA8", 0, no}, {".", "\U0010FFFF", 0, 4}, {".", "", 0, no}, {`\i.`, "\n", 0, no},
		// Kinds.
		{`\w`, "a", 0, 1}, {`\w`, "_", 0, 1}, {`\w`, " ", 0, no}, {`\w`, "\u4E16", 0, 3}, {`\w`, "\xE9", 0, no}, {`\w`, "\uFFFD", 0, no}, {`\W`, "a", 0, no}, {`\W`, "\xE9", 0, 1}, {`\W`, "\n", 0, 1}, {`\W`, "\uFFFD", 0, 3}, {`\W`, "\u00D7", 0, 2}, {`\W`, "", 0, no},
		{`\s`, " ", 0, 1}, {`\s`, "\u3000", 0, 3}, {`\s`, "\n", 0, 1}, {`\s`, "\xA0", 0, no}, {`\s`, "\u00A0", 0, 2}, {`\s`, "a", 0, no}, {`\S`, "a", 0, 1}, {`\S`, "\xA0", 0, 1}, {`\S`, "\u00A0", 0, no}, {`\S`, "\t", 0, no}, {`\S`, "\u200B", 0, 3}, {`\S`, "", 0, no},
		// Single characters, as they are written.
		{`\n`, "\n", 0, 1}, {`\r`, "\r", 0, 1}, {`\t`, "\t", 0, 1}, {`\n`, "n", 0, no}, {`\x41`, "A", 0, 1}, {`\x7F`, "\x7F", 0, 1}, {`\x80`, "\x80", 0, 1}, {`\x80`, "\u0080", 0, no}, {`\xFF`, "\xFF", 0, 1}, {`\xff`, "\xFF", 0, 1}, {`\xFf`, "\u00FF", 0, no}, {`\xc3\xa9`, "\u00E9", 0, no}, {`\xc3`, "\xC3", 0, 1}, {`\u{e9}`, "\u00E9", 0, 2}, {`\u{e9}`, "\xE9", 0, no}, {`\u{0000e9}`, "\u00E9", 0, 2}, {`\u{0}`, "\x00", 0, 1}, {`\u{10FFFF}`, "\U0010FFFF", 0, 4}, {`\u{fffd}`, "\uFFFD", 0, 3}, {`\u{fffd}`, "\xFF", 0, no}, {`\u{80}`, "\x80", 0, no}, {`\x41A`, "AA", 0, 2}, {`\u{41}1`, "A1", 0, 2}, {`\x411`, "A1", 0, 2},
		{`\.`, ".", 0, 1}, {`\.`, "a", 0, no}, {`\\`, `\`, 0, 1}, {`\*`, "*", 0, 1}, {`\~`, "~", 0, 1}, {`\{`, "{", 0, 1}, {"{2}", "{2}", 0, 3}, {"]", "]", 0, 1}, {"-", "-", 0, 1}, {"a-b", "a-b", 0, 3}, {"a|b", "a|b", 0, 3}, {`\\i`, `\i`, 0, 2}, {`\\i`, `\I`, 0, no}, {"\n", "\n", 0, 1}, {"\u00E9+", "\u00E9\u00E9e", 0, 4}, {"e\u0301", "\u00E9", 0, no},
		// Wrong bytes of the pattern.
		{"\xFF", "\xFF", 0, 1}, {"\xFF", "\xFE", 0, no}, {"\xFF", "\uFFFD", 0, no}, {"\uFFFD", "\xFF", 0, no}, {"\uFFFD", "\uFFFD", 0, 3}, {"\xC3", "\u00E9", 0, no}, {"\xC3\xA9", "\u00E9", 0, 2}, {"\xC3*", "\xC3\xC3\u00E9", 0, 2}, {"\xC3.", "\xC3\u00E9", 0, 3}, {"\xEF\xBF", "\xEF\xBF", 0, 2}, {"\xEF\xBF", "\uFFFD", 0, no}, {"\xE9", "\u00E9", 0, no}, {"\u00E9", "\xE9", 0, no},
		// Sets.
		{"[ab]", "b", 0, 1}, {"[ab]", "c", 0, no}, {"[ab]", "", 0, no}, {"[^ab]", "c", 0, 1}, {"[^ab]", "b", 0, no}, {"[^ab]", "\n", 0, 1}, {"[^ab]", "\xFF", 0, 1}, {"[^ab]", "", 0, no}, {"[a-c]+", "abcd", 0, 3}, {"[a-a]", "a", 0, 1}, {"[a-c]", "\x62", 0, 1}, {"[a-ce-g]+", "abefd", 0, 4}, {"[^a-c]", "d", 0, 1}, {"[^a-c]", "c", 0, no}, {"[^a-c]", "a", 0, no}, {"[^a-c]", "`", 0, 1},
		{"[^^]", "^", 0, no}, {"[^^]", "a", 0, 1}, {"[a^]", "^", 0, 1}, {"[.]", "a", 0, no}, {"[.]", ".", 0, 1}, {"[*]", "*", 0, 1}, {"[$]", "$", 0, 1}, {"[[]", "[", 0, 1}, {`[\]]`, "]", 0, 1}, {`[\-]`, "-", 0, 1}, {`[\\]`, `\`, 0, 1}, {"[a]]", "a]", 0, 2}, {`[+-\-]`, ",", 0, 1}, {"[a-c\\-]+", "-cab", 0, 4}, {`[\n]`, "\n", 0, 1}, {`[\x41]`, "A", 0, 1}, {"[^^-a]", "_", 0, no},
		{`[\w]`, "a", 0, 1}, {`[\w ]`, " ", 0, 1}, {`[\W]`, " ", 0, 1}, {`[\W]`, "\xE9", 0, 1}, {`[\s\w]`, ",", 0, no}, {`[^\w]`, "\xE9", 0, 1}, {`[^\W]`, "\xE9", 0, no}, {`[\S]`, "\xA0", 0, 1}, {`[\w\W]`, "\xFF", 0, 1}, {`[^\w\W]`, "\xFF", 0, no}, {`[^\s\S]`, "a", 0, no},
		{"[\xFF]", "\xFF", 0, 1}, {"[\xFF]", "\uFFFD", 0, no}, {"[\uFFFD]", "\xFF", 0, no}, {"[^\xFF]", "\xFF", 0, no}, {"[^\xFF]", "\xFE", 0, 1}, {"[^\xFF]", "\uFFFD", 0, 3}, {`[\xe9]`, "\u00E9", 0, no}, {`[\xe9]`, "\xE9", 0, 1}, {`[\u{80}-\u{10ffff}]`, "\xE9", 0, no}, {`[\u{0}-\u{10ffff}]`, "\xFF", 0, no}, {`[\u{0}-\u{10ffff}]`, "\uFFFD", 0, 3}, {`[^\u{0}-\u{10ffff}]+`, "\xFF\xC3a", 0, 2}, {"[\u00E9]", "\xC3", 0, no}, {"[\xC3\xA9]", "\u00E9", 0, 2}, {"[\xC3x\xA9]+", "\xC3\xA9\xC3", 0, no}, {"[\xC3x\xA9]+", "\xC3\xC3x\xA9", 0, 4},
	} {
		to, is := compiled(t, x.p).Match(x.s, x.at)
		if want := max(x.to, 0); to != want || is != (x.to != no) {
			t.Errorf("Compile(%q).Match(%q, %d) = %d, %v", x.p, x.s, x.at, to, is)
		}
	}
}

// P6.2: folded patterns: single characters, sets, what stays as it is, wrong bytes.
func TestFolded(t *testing.T) {
	for _, x := range []struct {
		p, s string
		want bool
	}{
		{`\ia`, "A", true}, {`\iA`, "a", true}, {`\iA`, "A", true}, {`\ia`, "b", false}, {`a`, "A", false}, {`\ik`, "\u212A", true}, {"\\i\u212A", "K", true}, {`\is`, "\u017F", true}, {"\\i\u03C2", "\u03A3", true}, {`\i\u{c4}`, "\u00E4", true}, {`\i\x41`, "a", true}, {"\\i\u1E9E", "\u00DF", true}, {"\\i\u0130", "i", false}, {`\i\.`, ".", true}, {`\i\n`, "\n", true}, {"\\i\u00D7", "\u00F7", false}, {`\i@`, "`", false},
		{"\\i\xC4", "\xC4", true}, {"\\i\xC4", "\xE4", false}, {"\\i\xC4", "\u00C4", false}, {`\i\xe4`, "\xC4", false}, {"\\i\u00E4", "\xE4", false}, {"\\i\u00E4", "\xC4", false}, {"\\i\uFFFD", "\xFF", false}, {"\\i\xFF", "\uFFFD", false}, {"\\i\uFFFD", "\uFFFD", true},
		// A set has what it had, and what comes into it once it is folded; not what it would have if its elements were folded.
		{`\i[a-z]`, "Q", true}, {`\i[a-z]`, "q", true}, {`\i[a-z]`, "\u212A", true}, {`\i[a-z]`, "\u017F", true}, {`\i[A-Z]`, "Q", true}, {`\i[A-Z]`, "q", false}, {`\i[Q]`, "q", false}, {`\i[Q]`, "Q", true}, {`\i[q]`, "Q", true}, {`\i[qQ]`, "q", true}, {"\\i[\u212A]", "k", false}, {"\\i[\u212A]", "\u212A", true}, {"\\i[k]", "\u212A", true}, {`\i[0-9]`, "a", false},
		{`\i[^a-z]`, "Q", false}, {`\i[^a-z]`, "q", false}, {`\i[^A-Z]`, "q", true}, {`\i[^A-Z]`, "Q", false}, {`\i[^q]`, "Q", false}, {`\i[^Q]`, "q", true}, {`\i[^Q]`, "Q", false}, {`\i[^a]`, "\n", true}, {`\i[^k]`, "\u212A", false},
		{"\\i[\xE4]", "\xE4", true}, {"\\i[\xE4]", "\xC4", false}, {"\\i[\xE4]", "\u00C4", false}, {"\\i[\u00E4]", "\xC4", false}, {"\\i[^\u00E4]", "\xC4", true}, {"\\i[^\u00E4]", "\xE4", true}, {"\\i[^\xE4]", "\xE4", false}, {"\\i[\uFFFD]", "\xFF", false},
		// Kinds and the point stay; a set with a kind is folded as a whole.
		{`\i\w`, "\u212A", false}, {`\i\W`, "\u212A", true}, {`\i\w`, "A", true}, {`\i\s`, "A", false}, {`\i\S`, "A", true}, {`\i.`, "\u2028", false}, {`\i.`, "A", true},
		{`\i[\w]`, "\u212A", true}, {`\i[^\w]`, "\u212A", false}, {`\i[\W]`, "\u212A", true}, {`\i[\w]`, "\xE9", false}, {`\i[\W]`, "\xE9", true}, {`\i[\s]`, "a", false},
		// Not behind its place.
		{`\\ia`, `\ia`, true}, {`\\ia`, `\IA`, false}, {`i`, "I", false},
	} {
		to, is := compiled(t, x.p).Match(x.s, 0)
		if is != x.want || is && to != len(x.s) || !is && to != 0 {
			t.Errorf("Compile(%q).Match(%q, 0) = %d, %v", x.p, x.s, to, is)
		}
	}
}

// P6.5: the rows of the examples; line ends of each kind; what stands around a piece; pieces without a character.
func TestAll(t *testing.T) {
	type l = []span
	for _, x := range []struct {
		p, s string
		want l
	}{
		{"a*", "ab", l{{0, 1}, {1, 1}, {2, 2}}}, {".", "h\u00E9\xFF\n", l{{0, 1}, {1, 3}, {3, 4}}}, {"$", "a\r\n", l{{1, 1}, {3, 3}}}, {"^", "a\r\n", l{{0, 0}, {3, 3}}},
		{"", "", l{{0, 0}}}, {"", "a\u00E9\xFF", l{{0, 0}, {1, 1}, {3, 3}, {4, 4}}}, {"a", "", nil}, {"a*", "aa", l{{0, 2}, {2, 2}}}, {"a*", "", l{{0, 0}}}, {"aa", "aaaaa", l{{0, 2}, {2, 4}}}, {"a?", "aab", l{{0, 1}, {1, 2}, {2, 2}, {3, 3}}}, {"x*", "\u00E9x\U0001F600", l{{0, 0}, {2, 3}, {3, 3}, {7, 7}}}, {"ab*", "abab", l{{0, 2}, {2, 4}}}, {"a+", "aabab", l{{0, 2}, {3, 4}}},
		{"^", "", l{{0, 0}}}, {"$", "", l{{0, 0}}}, {"^$", "", l{{0, 0}}}, {"^", "\r\n", l{{0, 0}, {2, 2}}}, {"$", "\r\n", l{{0, 0}, {2, 2}}}, {"^", "\n\r", l{{0, 0}, {1, 1}, {2, 2}}}, {"$", "\n\r", l{{0, 0}, {1, 1}, {2, 2}}}, {"^", "\r\r\n\n", l{{0, 0}, {1, 1}, {3, 3}, {4, 4}}}, {"$", "\r\r\n\n", l{{0, 0}, {1, 1}, {3, 3}, {4, 4}}}, {"^$", "a\n\r\nb", l{{2, 2}}}, {"$^", "a\n\r\nb", l{{2, 2}}},
		{"^", "a\u0085b", l{{0, 0}, {3, 3}}}, {"$", "a\u0085b", l{{1, 1}, {4, 4}}}, {"^", "a\x85b", l{{0, 0}}}, {"$", "a\x85b", l{{3, 3}}}, {"^", "a\u2028b", l{{0, 0}, {4, 4}}}, {"$", "\u2029b", l{{0, 0}, {4, 4}}}, {"^", "\u2028\xA8", l{{0, 0}, {3, 3}}}, {"$", "\xE2\x80", l{{2, 2}}}, {"^", "a\v\f\x1Cb", l{{0, 0}}}, {"$", "a\v\f\x1Cb", l{{5, 5}}}, {"^", "\u202A\u2027\u0084", l{{0, 0}}},
		{"^.", "a\nb\rc\r\nd\u0085e\u2028f\u2029g", l{{0, 1}, {2, 3}, {4, 5}, {7, 8}, {10, 11}, {14, 15}, {18, 19}}}, {".$", "ab\ncd\r\nef", l{{1, 2}, {4, 5}, {8, 9}}}, {"^.*$", "ab\r\n\ncd", l{{0, 2}, {4, 4}, {5, 7}}}, {`^\n`, "\r\n\n", l{{2, 3}}}, {`\r$`, "\r\n\r", l{{2, 3}}}, {`\r^`, "\r\n\r\r", l{{2, 3}, {3, 4}}}, {`$\n`, "\r\n\n", l{{2, 3}}}, {`\r\n^`, "\r\n", l{{0, 2}}}, {`\r$\n`, "\r\n", nil}, {`\r^\n`, "\r\n", nil}, {`\n^`, "a\n", l{{1, 2}}}, {`[^a]*^b`, "\n\nb", l{{0, 3}}},
		{"^a", "aa\na", l{{0, 1}, {3, 4}}}, {"a$", "aa\naa", l{{1, 2}, {4, 5}}}, {"^a*$", "aab\naa", l{{4, 6}}}, {"a^", "a\n", nil}, {"$a", "a", nil}, {`\s*$`, "a \n b ", l{{1, 2}, {2, 2}, {5, 6}, {6, 6}}},
		{"\xFF", "\xFF\uFFFD\xFE\xFF", l{{0, 1}, {5, 6}}}, {"\uFFFD", "\xFF\uFFFD\uFFFD", l{{1, 4}, {4, 7}}}, {"\xC3", "\u00E9\xC3\u00E9", l{{2, 3}}}, {"\xA9", "\u00E9\xA9", l{{2, 3}}}, {".", "\xE2\x82\u20AC", l{{0, 1}, {1, 2}, {2, 5}}},
	} {
		p := compiled(t, x.p)
		if got := spansOf(piecesOf(p, x.s)); !slices.Equal(got, x.want) {
			t.Errorf("Compile(%q).All(%q) = %v", x.p, x.s, got)
		}
	}
}

// span is a piece as two numbers; none, if nothing was found.
type span [2]int

var none = span{-1, -1}

// spanOf is what a call found. With a no it must have told the zero piece.
func spanOf(x api.Piece, is bool) span {
	if !is && x == (api.Piece{}) {
		return none
	}
	return span{x.From, x.To}
}

// P6.3, P6.4: the rows of the examples; places that are none.
func TestFindAndLast(t *testing.T) {
	for _, x := range []struct {
		p, s       string
		at         int
		find, last span
	}{
		{"ab*", "abab", 4, none, span{2, 4}}, {"ab*", "abab", 1, span{2, 4}, span{0, 2}}, {"ab*", "abab", -1, span{0, 2}, none}, {"ab*", "abab", 2, span{2, 4}, span{2, 4}}, {"ab*", "abab", 3, none, span{2, 4}}, {"ab*", "abab", 5, none, span{2, 4}},
		{"a*", "baa", 0, span{0, 0}, span{0, 0}}, {"a*", "baa", 1, span{1, 3}, span{1, 3}}, {"a*", "baa", 2, span{2, 3}, span{2, 3}}, {"a*", "baa", 3, span{3, 3}, span{3, 3}}, {"a*", "baa", 4, none, span{3, 3}}, {"a*", "baa", math.MaxInt, none, span{3, 3}}, {"a*", "baa", math.MinInt, span{0, 0}, none},
		{"\xFF", "\xC3\xFF\uFFFD", 0, span{1, 2}, none}, {"\uFFFD", "\xC3\xFF\uFFFD", 0, span{2, 5}, none}, {"\uFFFD", "\xC3\xFF\uFFFD", 3, none, span{2, 5}}, {`\xc3`, "\u00E9\xC3", 0, span{2, 3}, none}, {`\xc3`, "\u00E9\xC3", 3, none, span{2, 3}},
		{"^b$", "a\r\nb\r\n", 0, span{3, 4}, none}, {"^b$", "ab", 0, none, none}, {"^b$", "ab", 1, none, none}, {"^b$", "a\r\nb\r\n", 6, none, span{3, 4}}, {"[a-c\\-]+", "x-cab", 0, span{1, 5}, none}, {"[^a-c]", "x-cab", 0, span{0, 1}, span{0, 1}}, {`\i\u{c4}+`, "x\u00C4\u00E4", 0, span{1, 5}, none}, {`\i\u{c4}+`, "x\u00C4\u00E4", 2, span{3, 5}, span{1, 5}},
		// Within a character.
		{"", "\u00E9", 1, span{2, 2}, span{0, 0}}, {".", "\U0001F600\u00E9", 1, span{4, 6}, span{0, 4}}, {".", "\U0001F600\u00E9", 3, span{4, 6}, span{0, 4}}, {".", "\U0001F600\u00E9", 5, none, span{4, 6}}, {"", "", 0, span{0, 0}, span{0, 0}}, {"", "", 1, none, span{0, 0}}, {"", "", -1, span{0, 0}, none}, {"a", "", 0, none, none},
		// What stands ahead of where one looks counts, and so does what stands behind.
		{"^b", "ab", 1, none, none}, {"^b", "\nb", 1, span{1, 2}, span{1, 2}}, {"^", "\r\n", 1, span{2, 2}, span{0, 0}}, {"ab", "ab", 0, span{0, 2}, span{0, 2}}, {"a.*b", "a--b--b--", 0, span{0, 7}, span{0, 7}}, {"a.*b", "aa-b", 9, none, span{1, 4}}, {"a.*b", "aa-b", 0, span{0, 4}, span{0, 4}}, {"a$", "aa", 1, span{1, 2}, span{1, 2}},
		// The least place, though what begins later ends sooner.
		{"a*b?c", "aab aac", 0, span{4, 7}, none}, {"[ab]*c?b", "aabacb", 0, span{0, 6}, span{0, 6}}, {"[ab]*c?b", "aabacb", 6, none, span{5, 6}}, {"ab?c?d?e?", "abcdXa", 5, span{5, 6}, span{5, 6}},
	} {
		p := compiled(t, x.p)
		if got := spanOf(p.Find(x.s, x.at)); got != x.find {
			t.Errorf("Compile(%q).Find(%q, %d) = %v", x.p, x.s, x.at, got)
		}
		if got := spanOf(p.Last(x.s, x.at)); got != x.last {
			t.Errorf("Compile(%q).Last(%q, %d) = %v", x.p, x.s, x.at, got)
		}
	}
}

// R7: what is told can be gone through again, left early, and gone through by two at once.
func TestAllAgain(t *testing.T) {
	seq := compiled(t, "a+b?").All("aab-ab-a")
	want := []api.Piece{{From: 0, To: 3}, {From: 4, To: 6}, {From: 7, To: 8}}
	for n := range len(want) + 1 {
		var got []api.Piece
		for x := range seq {
			if len(got) == n {
				break
			}
			got = append(got, x)
		}
		if !slices.Equal(got, want[:n]) {
			t.Errorf("left behind %d: %v", n, got)
		}
	}
	var pairs []span
	for x := range seq {
		for y := range seq {
			pairs = append(pairs, span{x.From, y.To})
		}
	}
	if !slices.Equal(pairs, []span{{0, 3}, {0, 6}, {0, 8}, {4, 3}, {4, 6}, {4, 8}, {7, 3}, {7, 6}, {7, 8}}) {
		t.Errorf("gone through by two at once: %v", pairs)
	}
}

// P6.6: the rows of the examples; the marks, and those that are not quoted.
func TestQuote(t *testing.T) {
	for s, want := range map[string]string{
		`a.b\`: `a\.b\\`, "[x]": `\[x\]`, "": "", ".[]*+?^$\\": `\.\[\]\*\+\?\^\$\\`, "-{}()|i/\"'~`!#": "-{}()|i/\"'~`!#", `\i`: `\\i`, "\xFF*": "\xFF\\*", "\u00E9.\u2028": "\u00E9\\.\u2028", "\xC3.\xA9": "\xC3\\.\xA9", "\n\r\t\x00": "\n\r\t\x00", "aZ09_ ": "aZ09_ ",
	} {
		if got := seek.Quote(s); got != want {
			t.Errorf("Quote(%q) = %q", s, got)
		}
	}
	if got := seek.Quote(strings.Repeat("*a", 1<<19)); got != strings.Repeat(`\*a`, 1<<19) {
		t.Errorf("a long text is quoted as %d bytes", len(got))
	}
}

// P6.7, R3: a pattern that is nil, and one that nobody compiled.
func TestNone(t *testing.T) {
	for _, p := range []*seek.Pattern{nil, {}, new(seek.Pattern)} {
		if p.Text() != "" {
			t.Errorf("Text is %q", p.Text())
		}
		for _, s := range []string{"", "a", "\u00E9\xFF\n"} {
			for _, at := range []int{math.MinInt, -1, 0, 1, 2, math.MaxInt} {
				if to, is := p.Match(s, at); to != 0 || is {
					t.Errorf("Match(%q, %d) = %d, %v", s, at, to, is)
				}
				if x, is := p.Find(s, at); x != (api.Piece{}) || is {
					t.Errorf("Find(%q, %d) = %v, %v", s, at, x, is)
				}
				if x, is := p.Last(s, at); x != (api.Piece{}) || is {
					t.Errorf("Last(%q, %d) = %v, %v", s, at, x, is)
				}
			}
			if l := piecesOf(p, s); len(l) > 0 {
				t.Errorf("All(%q) tells %v", s, l)
			}
		}
	}
}
