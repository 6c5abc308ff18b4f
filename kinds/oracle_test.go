package kinds_test

import (
	"math/big"
	"slices"
	"strconv"
	"strings"
	"unicode/utf8"
)

// endRunes is the line-end runes, as the document tells them: hexadecimal, ranges with both ends in.
const endRunes = "A, D, 85, 2028, 2029"

// blankRunes is the blanks.
const blankRunes = "9 to D, 20, 85, A0, 1680, 2000 to 200A, 2028 to 2029, 202F, 205F, 3000"

// wordRunes is the word runes.
const wordRunes = "30 to 39, 41 to 5A, 5F, 61 to 7A, AA, B5, BA, C0 to D6, D8 to F6, F8 to 37D, 37F to 386, 388 to 52F, " +
	"531 to 556, 561 to 587, 5D0 to 5EA, 620 to 669, 904 to 939, E01 to E30, 10A0 to 10FF, 1E00 to 1FFF, " +
	"3041 to 3096, 30A1 to 30FA, 3400 to 4DBF, 4E00 to 9FFF, AC00 to D7A3, F900 to FAFF, FF10 to FF19, FF21 to FF3A, " +
	"FF41 to FF5A, FF66 to FF9D, 10400 to 1044F, 1D400 to 1D7FF, 20000 to 2FA1F"

// narrowRunes is the runes of no width.
const narrowRunes = "0 to 1F, 7F to 9F, 300 to 36F, 483 to 489, 591 to 5BD, 610 to 61A, 64B to 65F, 200B to 200F, 2028 to 202E, " +
	"2060 to 2064, 20D0 to 20FF, FE00 to FE0F, FE20 to FE2F, FEFF, E0100 to E01EF"

// wideRunes is the runes of the width 2.
const wideRunes = "1100 to 115F, 2E80 to 303E, 3041 to 4DBF, 4E00 to A4CF, AC00 to D7A3, F900 to FAFF, FE30 to FE6F, FF00 to FF60, " +
	"FFE0 to FFE6, 1F300 to 1F64F, 1F680 to 1F6FF, 1F900 to 1F9FF, 20000 to 3FFFD"

// foldRows is which runes become which ones when they are folded; a row with a step takes every second rune, the first on.
var foldRows = []foldRow{
	{"41 to 5A", "61 to 7A", 1},
	{"C0 to D6", "E0 to F6", 1},
	{"D8 to DE", "F8 to FE", 1},
	{"100 to 12E", "101 to 12F", 2},
	{"132 to 136", "133 to 137", 2},
	{"139 to 147", "13A to 148", 2},
	{"14A to 176", "14B to 177", 2},
	{"178", "FF", 1},
	{"179 to 17D", "17A to 17E", 2},
	{"17F", "73", 1},
	{"386", "3AC", 1},
	{"388 to 38A", "3AD to 3AF", 1},
	{"38C", "3CC", 1},
	{"38E to 38F", "3CD to 3CE", 1},
	{"391 to 3A1", "3B1 to 3C1", 1},
	{"3A3 to 3AB", "3C3 to 3CB", 1},
	{"3C2", "3C3", 1},
	{"3D8 to 3EE", "3D9 to 3EF", 2},
	{"400 to 40F", "450 to 45F", 1},
	{"410 to 42F", "430 to 44F", 1},
	{"460 to 480", "461 to 481", 2},
	{"48A to 4BE", "48B to 4BF", 2},
	{"4C1 to 4CD", "4C2 to 4CE", 2},
	{"4D0 to 52E", "4D1 to 52F", 2},
	{"531 to 556", "561 to 586", 1},
	{"1E00 to 1E94", "1E01 to 1E95", 2},
	{"1E9E", "DF", 1},
	{"1EA0 to 1EFE", "1EA1 to 1EFF", 2},
	{"2126", "3C9", 1},
	{"212A", "6B", 1},
	{"212B", "E5", 1},
	{"2160 to 216F", "2170 to 217F", 1},
	{"24B6 to 24CF", "24D0 to 24E9", 1},
	{"FF21 to FF3A", "FF41 to FF5A", 1},
	{"10400 to 10427", "10428 to 1044F", 1},
}

type foldRow struct {
	from, to string
	step     rune
}

// span is runes one behind the other, both ends in.
type span struct{ from, to rune }

// spansOf reads ranges as the document writes them.
func spansOf(list string) []span {
	var l []span
	for _, part := range strings.Split(list, ", ") {
		from, to, two := strings.Cut(part, " to ")
		if !two {
			to = from
		}
		l = append(l, span{runeOf(from), runeOf(to)})
	}
	return l
}

func runeOf(hex string) rune {
	n, err := strconv.ParseInt(hex, 16, 32)
	if err != nil {
		panic(err)
	}
	return rune(n)
}

// setOf is each rune of a list of ranges.
func setOf(list string) map[rune]bool {
	set := map[rune]bool{}
	for _, x := range spansOf(list) {
		for r := x.from; r <= x.to; r++ {
			set[r] = true
		}
	}
	return set
}

// told is what the document says of each rune.
type told struct {
	ends, blank, word, narrow, wide map[rune]bool
	folded                          map[rune]rune
}

func tell() told {
	return told{setOf(endRunes), setOf(blankRunes), setOf(wordRunes), setOf(narrowRunes), setOf(wideRunes), foldsOf()}
}

// foldsOf is what each rune of a row's left side becomes.
func foldsOf() map[rune]rune {
	folded := map[rune]rune{}
	for _, row := range foldRows {
		from, to := spansOf(row.from)[0], spansOf(row.to)[0]
		for n := rune(0); from.from+n <= from.to; n += row.step {
			folded[from.from+n] = to.from + n
		}
	}
	return folded
}

func (x told) width(r rune) int {
	switch {
	case x.narrow[r]:
		return 0
	case x.wide[r]:
		return 2
	}
	return 1
}

func (x told) fold(r rune) rune {
	if to, is := x.folded[r]; is {
		return to
	}
	return r
}

// class is 'b', 'w' or 'o'.
func (x told) class(r rune) byte {
	switch {
	case x.blank[r]:
		return 'b'
	case x.word[r]:
		return 'w'
	}
	return 'o'
}

// edges is both ends of each range and of each side of each row, the runes next to them, what lies at the ends of what may be a rune, and all of these with one high bit turned.
func edges() []rune {
	lists := []string{endRunes, blankRunes, wordRunes, narrowRunes, wideRunes, "0 to 7F, D800 to DFFF, FFFD to 10000, 10FFFF"}
	for _, row := range foldRows {
		lists = append(lists, row.from, row.to)
	}
	var l []rune
	for _, list := range lists {
		for _, x := range spansOf(list) {
			l = append(l, x.from-1, x.from, x.from+1, x.to-1, x.to, x.to+1)
		}
	}
	l = append(l, -1<<31, 1<<31-1)
	for _, r := range slices.Clone(l) {
		for bit := 16; bit < 32; bit++ {
			l = append(l, r^int32(uint32(1)<<bit))
		}
	}
	slices.Sort(l)
	return slices.Compact(l)
}

// charOf is a character: where it begins, its rune, whether it is a right one.
type charOf struct {
	at    int
	r     rune
	right bool
}

func charsOf(s string) []charOf {
	var l []charOf
	for at := 0; at < len(s); {
		r, width := utf8.DecodeRuneInString(s[at:])
		l = append(l, charOf{at, r, r != utf8.RuneError || width > 1})
		at += width
	}
	return l
}

// stopsOf is the stops of s, by the words of the document.
func (x told) stopsOf(s string) []int {
	var l []int
	chars := charsOf(s)
	for n, c := range chars {
		if x.class(c.r) == 'b' {
			continue
		}
		if n == 0 || x.class(chars[n-1].r) != x.class(c.r) {
			l = append(l, c.at)
		}
	}
	return append(l, len(s))
}

// brought is a place brought into s.
func brought(s string, at int) int {
	if at >= len(s) {
		return len(s)
	}
	last := 0
	for _, c := range charsOf(s) {
		if c.at <= at {
			last = c.at
		}
	}
	return last
}

// nextOf and backOf look through all stops.
func nextOf(stops []int, end, at int) int {
	for _, stop := range stops {
		if stop > at {
			return stop
		}
	}
	return end
}

func backOf(stops []int, at int) int {
	for _, stop := range slices.Backward(stops) {
		if stop < at {
			return stop
		}
	}
	return 0
}

// keysOf is s as numbers that are the same just where characters are alike.
func (x told) keysOf(s string) []rune {
	var l []rune
	for _, c := range charsOf(s) {
		if c.right {
			l = append(l, x.fold(c.r))
		} else {
			l = append(l, -1-rune(s[c.at]))
		}
	}
	return l
}

// columnsOf counts the columns by numbers that have no bound.
func (x told) columnsOf(s string, from, tab int) int {
	begin := big.NewInt(int64(max(from, 0)))
	step := big.NewInt(int64(min(max(tab, 1), 16)))
	column := new(big.Int).Set(begin)
	for _, c := range charsOf(s) {
		if c.r == 9 {
			column.Div(column, step).Add(column, big.NewInt(1)).Mul(column, step)
		} else {
			column.Add(column, big.NewInt(int64(x.width(c.r))))
		}
	}
	return int(column.Sub(column, begin).Int64())
}

// textsOf is all texts of up to so many of the parts, one behind the other.
func textsOf(n int, parts ...string) []string {
	l := []string{""}
	last := l
	for range n {
		var longer []string
		for _, s := range last {
			for _, part := range parts {
				longer = append(longer, s+part)
			}
		}
		l = append(l, longer...)
		last = longer
	}
	return l
}

// manyTexts is all short texts of blanks, word runes, others and wrong bytes, and of the bytes that make such characters.
func manyTexts() []string {
	l := textsOf(6, "a", ",", " ", "\xC3", "\xA9")
	l = append(l, textsOf(6, "\xE3", "\x80", "_", "-")...)
	l = append(l, textsOf(5, "\xE2", "\x80", "\xA8", "\xFF", "z")...)
	l = append(l, textsOf(5, "\xF0", "\x9F", "\x98", "\x80", "0")...)
	l = append(l, textsOf(5, "b", ";", "\t", "\u4E16", "\xEF\xBF\xBD", "\xFE")...)
	l = append(l, textsOf(4, "\r", "\n", "\u0301", "\u200B", "\u3000", "\U00010400", "\U0001F600", "\xED\xA0\x80")...)
	return l
}
