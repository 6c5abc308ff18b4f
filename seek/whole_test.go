package seek_test

import (
	"math"
	"math/rand/v2"
	"slices"
	"strings"
	"testing"

	"vellum/api"
	"vellum/seek"
	"vellum/utf"
)

// checkCompile holds a pattern against what comes of it character by character.
func checkCompile(t *testing.T, p string) {
	t.Helper()
	_, at := readOf(p)
	fault, is := faultOf(t, p)
	if is != (at >= 0) || is && fault != (api.Fault{Code: api.ErrPattern, At: at}) {
		t.Fatalf("Compile(%q): %v, %v at %d, not at %d", p, is, fault.Code, fault.At, at)
	}
}

// P6.1: all short patterns of what sets, counts, escapes, numbers and wrong bytes are written with.
func TestFaultsEverywhere(t *testing.T) {
	for _, l := range [][]string{
		textsOf(5, "[", "]", "^", "-", "a", `\w`, "b", "*"),
		textsOf(5, `\`, "x", "4", "g", "-", "[", "]"),
		textsOf(4, `\i`, `\`, "i", "*", "+", "?", "^", "$", ".", "a", "[", "]"),
		textsOf(5, "[", "]", "-", "\xFF", "\xC3", "\xA9", `\xf`, "a"),
		textsOf(6, `\u{`, "d", "80", "}", "1"),
	} {
		for _, p := range l {
			checkCompile(t, p)
		}
	}
	for _, p := range textsOf(5, "0", "d8", "F", "}", "1", "g") {
		for _, ahead := range []string{`\u{`, `\u{10`, `[\u{`, `[b-\u{`, "[\xFF-\\u{", `\i[^~-\u{00`} {
			checkCompile(t, ahead+p)
			checkCompile(t, ahead+p+"]")
		}
	}
}

// ways is each byte alone, and characters of each width, those that look like ASCII's among them.
func ways() []string {
	var l []string
	for b := range 256 {
		l = append(l, string([]byte{byte(b)}))
	}
	for _, r := range []rune{0x80, 0x85, 0xA0, 0xC4, 0xD7, 0xE4, 0xE9, 0x130, 0x17F, 0x1E9E, 0x2028, 0x2029, 0x212A, 0x212B, 0x2126, 0x3000, 0x4E16, 0x660, 0xD7FF, 0xE000, 0xFF11, 0xFF21, 0xFF3B, 0xFF3C, 0xFFFD, 0xFFFF, 0x10000, 0x1F600, 0x10FFFF} {
		l = append(l, string(r))
	}
	return l
}

// P6.1: each character at each place at which few may stand, alone and with more behind it.
func TestFaultsOfEachCharacter(t *testing.T) {
	for _, ahead := range []string{"", `\`, `\i`, `\i\`, "a", "a*", "^", `a\`, "[", "[^", "[a", "[a-", "[b-", "[a-b", `[\`, `[a-\`, `[\w`, `\x`, `\x4`, `[\x4`, `\u`, `\u{`, `\u{4`, `\u{12345`, `\u{10FFF`, `\u{DFF`, `\u{123456`, "[\xFF", "[\xFF-", "[a-\\x4", "[~-\\x7"} {
		for _, c := range ways() {
			for _, behind := range []string{"", "]", "}", "}]", "-b]", "1}]", "*"} {
				checkCompile(t, ahead+c+behind)
			}
		}
	}
}

// P6.1, P6.2: a pattern that is one character, as it stands, quoted, by digits and in sets, against each character.
func TestEachCharacterAlone(t *testing.T) {
	var patterns []string
	for _, c := range ways() {
		for _, x := range [][2]string{{"", ""}, {`\`, ""}, {"[", "]"}, {`[\`, "]"}, {"[^", "]"}, {"[0-", "]"}, {"[", "-\u00FF]"}} {
			patterns = append(patterns, x[0]+c+x[1], `\i`+x[0]+c+x[1])
		}
	}
	for b := range 256 {
		for _, digits := range []string{"0123456789abcdef", "0123456789ABCDEF"} {
			hex := string([]byte{digits[b/16], digits[b%16]})
			patterns = append(patterns, `\x`+hex, `\u{`+hex+"}", `\i\x`+hex, `\i\u{`+hex+"}", `[\x`+hex+"]", `[^\u{0`+hex+"}]")
		}
	}
	texts := ways()
	for _, text := range patterns {
		read, at := readOf(text)
		checkCompile(t, text)
		if at >= 0 {
			continue
		}
		p := compiled(t, text)
		for _, s := range texts {
			want := spanOf(findOf(lay(s).matches(read), len(s), 0))
			if got := spanOf(p.Find(s, 0)); got != want {
				t.Fatalf("Compile(%q).Find(%q, 0) = %v, not %v", text, s, got, want)
			}
		}
	}
}

// P6.2: each kind of atom against each rune that may be, and each wrong byte.
func TestEachRune(t *testing.T) {
	for _, text := range []string{".", `\w`, `\W`, `\s`, `\S`, `\i\w`, `\i[\w]`, `\i[a-z\u{e0}-\u{fe}]`, `\i[^a-z\u{3b1}-\u{3c9}]`, `\i\u{3c3}`, `[\u{80}-\u{fffe}]`, `[^\s\w]`} {
		p := compiled(t, text)
		read, _ := readOf(text)
		for r := rune(0); r <= 0x10FFFF; r++ {
			// Above the last folded rune only the edges of kinds matter.
			if r > 0x11000 && r%0x100 > 1 {
				continue
			}
			s := string(r)
			to, is := p.Match(s, 0)
			if want := read.pieces[0].has(lettersOf(s)[0], read.fold); is != want || is && to != len(s) {
				t.Fatalf("Compile(%q).Match of %X = %d, %v", text, r, to, is)
			}
		}
		for b := 0x80; b < 0x100; b++ {
			s := string([]byte{byte(b)})
			if to, is := p.Match(s, 0); is != read.pieces[0].has(lettersOf(s)[0], read.fold) || is && to != 1 {
				t.Fatalf("Compile(%q).Match of the wrong byte %X = %d, %v", text, b, to, is)
			}
		}
	}
}

// checkSearch holds all calls of a pattern, at each place of a text and beyond, against looking through all places.
func checkSearch(t *testing.T, p *seek.Pattern, read *scanner, x laid) {
	t.Helper()
	ends := x.matches(read)
	size := len(x.text)
	for at := -1; at <= size+1; at++ {
		want, is := ends[at]
		is = is && want >= 0
		if got, found := p.Match(x.text, at); found != is || is && got != want || !is && got != 0 {
			t.Fatalf("Compile(%q).Match(%q, %d) = %d, %v, not %d, %v", p.Text(), x.text, at, got, found, want, is)
		}
		if got, want := spanOf(p.Find(x.text, at)), spanOf(findOf(ends, size, at)); got != want {
			t.Fatalf("Compile(%q).Find(%q, %d) = %v, not %v", p.Text(), x.text, at, got, want)
		}
		if got, want := spanOf(p.Last(x.text, at)), spanOf(lastOf(ends, size, at)); got != want {
			t.Fatalf("Compile(%q).Last(%q, %d) = %v, not %v", p.Text(), x.text, at, got, want)
		}
	}
	got := piecesOf(p, x.text)
	if want := allOf(ends, size); !slices.Equal(got, want) {
		t.Fatalf("Compile(%q).All(%q) = %v, not %v", p.Text(), x.text, got, want)
	}
	checkRising(t, p, x.text, got)
}

// checkRising: P6.8: pieces begin and end at places, Match says so, they do not overlap, and rise.
func checkRising(t *testing.T, p *seek.Pattern, s string, pieces []api.Piece) {
	t.Helper()
	for n, x := range pieces {
		to, is := p.Match(s, x.From)
		if !utf.Begins(s, x.From) || !utf.Begins(s, x.To) || !is || to != x.To {
			t.Fatalf("Compile(%q).All(%q) tells %v, Match %d, %v", p.Text(), s, x, to, is)
		}
		if n > 0 && (x.From < pieces[n-1].To || x.From <= pieces[n-1].From) {
			t.Fatalf("Compile(%q).All(%q) tells %v behind %v", p.Text(), s, x, pieces[n-1])
		}
	}
}

// checkSearches holds many patterns against many texts.
func checkSearches(t *testing.T, patterns, texts []string) {
	t.Helper()
	var laidOut []laid
	for _, s := range texts {
		laidOut = append(laidOut, lay(s))
	}
	for _, text := range patterns {
		read, at := readOf(text)
		if at >= 0 {
			t.Fatalf("%q is no pattern, at %d", text, at)
		}
		p := compiled(t, text)
		for _, x := range laidOut {
			checkSearch(t, p, read, x)
		}
	}
}

// P6.2 to P6.5, P6.8: all patterns of up to three items against all short texts.
func TestSearchEverywhere(t *testing.T) {
	checkSearches(t, textsOf(3, "a", "a*", "b+", "a?", ".", "[ab]*", "[^a]", "$", "^"), textsOf(4, "a", "b", "\n"))
}

// P6.2 to P6.5, P6.8: line ends of each kind, and what only looks like one.
func TestSearchLineEnds(t *testing.T) {
	checkSearches(t, textsOf(2, "^", "$", ".", `\r`, `\n`, `\s*`, "[^a]*", "a?", `\x85`, `\u{85}+`), textsOf(4, "\r", "\n", "a", "\xC2", "\x85"))
	checkSearches(t, textsOf(2, "^", "$", ".", `\u{2028}`, `\xE2`, "[^a]*", `\W+`), textsOf(5, "\xE2", "\x80", "\xA8", "\xA9"))
}

// P6.2 to P6.5, P6.8: wrong bytes, characters that they would make, and a right FFFD.
func TestSearchWrongBytes(t *testing.T) {
	checkSearches(t, textsOf(2, "\xC3", "\xA9", `\xC3+`, `\u{e9}`, "[\xC3\xFF]*", `[^\xC3]`, "\uFFFD", `\xff`, ".", "[^\uFFFD]*", `\W`, "[\xA9\uFFFD]+"), textsOf(4, "\xC3", "\xA9", "\xFF", "\uFFFD", "a"))
	checkSearches(t, textsOf(2, "\xEF", "\xBF", "\xBD", "\uFFFD", ".*", "[^\xEF]", `[\xef\xbf]+`), textsOf(6, "\xEF", "\xBF", "\xBD"))
}

// P6.2 to P6.5, P6.8: folded patterns, and the same ones as they are.
func TestSearchFolded(t *testing.T) {
	items := []string{"k", "K", "[k]", "[K]*", "[^k]", "[^K]+", `\w`, `[\w]*`, "\u212A?", "[j-l]+", "\xC4", "\u00C4", "[\u00E4]", "."}
	texts := textsOf(3, "k", "K", "\u212A", "\xC4", "\u00C4", "\u00E4")
	for _, ahead := range []string{`\i`, ""} {
		var patterns []string
		for _, p := range textsOf(2, items...) {
			patterns = append(patterns, ahead+p)
		}
		checkSearches(t, patterns, texts)
	}
}

// P6.2 to P6.5, P6.8: patterns of many items, and texts that are longer than Last looks at once.
func TestSearchLonger(t *testing.T) {
	items := []string{"a", "b", "a*", "b?", "a+", "[ab]*", "[^b]?", ".", ".*", ".?", "^", "$", `\n?`, `\s*`, `\w+`, `\W?`, "\u00E9", `\xC3?`, "[\xFF\u00E9a-b]", "\uFFFD*"}
	parts := []string{"a", "a", "a", "b", "b", "\n", "\r\n", "\u00E9", "\xC3", "\xFF", "\uFFFD", " "}
	r := rand.New(rand.NewPCG(6, 8))
	pick := func(n int, of []string) string {
		var b strings.Builder
		for range n {
			b.WriteString(of[r.IntN(len(of))])
		}
		return b.String()
	}
	for n := range 4000 {
		text := pick(r.IntN(12), items)
		if n%3 == 0 {
			text = `\i` + text
		}
		checkSearches(t, []string{text}, []string{pick(r.IntN(40), parts), pick(r.IntN(40), parts[:5]), pick(r.IntN(40), parts[:3]) + "b"})
	}
	for n := range 60 {
		text := pick(1+r.IntN(5), items)
		rare := strings.Repeat(pick(1, parts), 20+n*10)
		checkSearches(t, []string{text}, []string{rare + pick(3, parts) + rare, pick(300, parts)})
	}
}

// P6.6: what is quoted is a pattern, and matches just the pieces that are the text.
func TestQuoteEverywhere(t *testing.T) {
	texts := append(textsOf(3, "a", ".", `\`, "[", "]", "*", "\xC3", "\xA9", "\n"), textsOf(3, "+", "?", "^", "$", "i", "-", "\uFFFD", "\xFF")...)
	held := append(textsOf(4, "\xC3", "\xA9", "a", "."), textsOf(3, `\`, "[", "*", "^", "i", "\uFFFD", "\xFF")...)
	for _, s := range texts {
		p := compiled(t, seek.Quote(s))
		letters := lettersOf(s)
		for _, text := range append(held, s, "x"+s, s+"x", "\xC3"+s+"\xA9", s+s) {
			all := append(lettersOf(text), letter{from: len(text), wrong: true})
			for n := range all {
				is := len(all)-1-n >= len(letters)
				for k := 0; is && k < len(letters); k++ {
					is = all[n+k].r == letters[k].r && all[n+k].wrong == letters[k].wrong
				}
				at := all[n].from
				to, got := p.Match(text, at)
				if got != is || is && to != at+len(s) {
					t.Fatalf("Compile(Quote(%q)).Match(%q, %d) = %d, %v", s, text, at, to, got)
				}
			}
		}
	}
}

// P6.6: each byte, and each character of more bytes, quoted.
func TestQuoteEachCharacter(t *testing.T) {
	for _, c := range ways() {
		want := c
		if strings.Contains(".[]*+?^$\\", c) {
			want = `\` + c
		}
		if got := seek.Quote(c); got != want {
			t.Errorf("Quote(%q) = %q", c, got)
		}
		if to, is := compiled(t, seek.Quote(c)).Match(c+"-", 0); to != len(c) || !is {
			t.Errorf("Quote(%q) matches up to %d, %v", c, to, is)
		}
	}
}

// long is as many of a text as a document may have.
func long(part string) string { return strings.Repeat(part, api.MaxText/len(part)) }

// R1: texts and patterns as long as they may be: what is found, from each end, and by going over all, costs no more than few ways over the text.
func TestLongTexts(t *testing.T) {
	n := api.MaxText
	for _, x := range []struct {
		p, s       string
		find, last span
		pieces     int
	}{
		{"a*b", long("a"), none, none, 0},
		{"a.*b", long("a"), none, none, 0},
		{"a.*b", long("a") + "b", span{0, n + 1}, span{n - 1, n + 1}, 1},
		{".*b", "b" + long("a"), span{0, 1}, span{0, 1}, 1},
		{"b.*", "b" + long("a"), span{0, n + 1}, span{0, n + 1}, 1},
		{strings.Repeat("a?", 32) + strings.Repeat("a", 32), long("a"), span{0, 64}, span{n - 32, n}, n / 64},
		{strings.Repeat(".*", 40) + "b", long("a"), none, none, 0},
		{strings.Repeat("a*", 40) + "$", long("a") + "b", span{n + 1, n + 1}, span{n + 1, n + 1}, 1},
		{"[^x]*^", long("a"), span{0, 0}, span{0, 0}, 1},
		{"", long("\u00E9"), span{0, 0}, span{n, n}, n/2 + 1},
		{"a", long("a"), span{0, 1}, span{n - 1, n}, n},
		{"a*", long("ab"), span{0, 1}, span{n, n}, n + 1},
		{"\xC3", long("\u00E9"), none, none, 0},
		{"\xA9", long("\u00E9\xA9\xA9"), span{2, 3}, span{n - 1, n}, n / 4 * 2},
		{"^$", long("\r\n"), span{0, 0}, span{n, n}, n/2 + 1},
		{strings.Repeat("^", 100), long("\n"), span{0, 0}, span{n, n}, n + 1},
		{`\i[^` + strings.Repeat("b", 100) + "]", long("A"), span{0, 1}, span{n - 1, n}, n},
	} {
		p := compiled(t, x.p)
		if got := spanOf(p.Find(x.s, 0)); got != x.find {
			t.Errorf("Find of %.20q: %v", x.p, got)
		}
		if got := spanOf(p.Last(x.s, math.MaxInt)); got != x.last {
			t.Errorf("Last of %.20q: %v", x.p, got)
		}
		got := 0
		for range p.All(x.s) {
			got++
		}
		if got != x.pieces {
			t.Errorf("All of %.20q: %d pieces", x.p, got)
		}
	}
}

// P6.4: to go back from piece to piece costs no more than what is passed over.
func TestLastAgainAndAgain(t *testing.T) {
	s := long("ab, \u00E9\xFF\n")
	p := compiled(t, `\w+$`)
	if piecesOf(p, s) != nil {
		t.Errorf("a word at a line's end is found")
	}
	p = compiled(t, "^ab?")
	n := 0
	for to := len(s); to >= 0; n++ {
		x, is := p.Last(s, to)
		if !is {
			break
		}
		if x.To != x.From+2 || x.From > to || x.From%8 != 0 {
			t.Fatalf("Last to %d: %v", to, x)
		}
		to = x.From - 1
	}
	if n != len(s)/8 {
		t.Errorf("%d pieces from behind", n)
	}
}
