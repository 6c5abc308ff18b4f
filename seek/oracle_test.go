package seek_test

import (
	"strings"
	"unicode/utf8"

	"vellum/api"
	"vellum/kinds"
)

// letter is a character of a text: where it begins, where it ends; a wrong one has its byte as its rune.
type letter struct {
	from, to int
	r        rune
	wrong    bool
}

func lettersOf(s string) []letter {
	var l []letter
	for at := 0; at < len(s); {
		r, width := utf8.DecodeRuneInString(s[at:])
		wrong := r == utf8.RuneError && width == 1
		if wrong {
			r = rune(s[at])
		}
		l = append(l, letter{at, at + width, r, wrong})
		at += width
	}
	return l
}

// element is what a set, or an atom, is made of: a kind, or the characters from one to another.
type element struct {
	kind      rune // w, W, s, S; 0: none
	low, high letter
}

// piece is an item as the chapter tells it.
type piece struct {
	mark     rune // ^, $, '.'; 0: one character of a set, of which a single character is one
	elements []element
	set, not bool
	least    int
	most     int // -1: no bound
}

// scanner is fed with a pattern's characters, one by one, and says of each whether it may stand there. It knows what has come by the name of its state alone.
type scanner struct {
	state  string // what may come: first, item, count, setFirst, set, setDash, setEnd; or what an escape is in
	home   string // where an escape goes back to
	value  rune
	digits int
	low    letter
	fold   bool
	pieces []piece
}

// digitOf is a digit's value, or -1.
func digitOf(c letter) rune {
	if c.wrong || c.r >= 0x80 {
		return -1
	}
	return rune(strings.IndexByte("0123456789abcdef", byte(strings.ToLower(string(c.r))[0])))
}

// plain says whether c is a right character, one of these.
func plain(c letter, of string) bool { return !c.wrong && strings.ContainsRune(of, c.r) }

func (x *scanner) feed(c letter) bool {
	switch x.state {
	case "first", "item", "count":
		return x.feedItem(c)
	case "setFirst", "setHead", "set", "setDash", "setEnd":
		return x.feedSet(c)
	case "escape":
		return x.feedEscape(c)
	case "x":
		d := digitOf(c)
		x.value = x.value*16 + d
		x.digits++
		return d >= 0 && (x.digits < 2 || x.single(letter{r: x.value, wrong: x.value >= 0x80}))
	case "u":
		x.state = "u{"
		return plain(c, "{")
	}
	if d := digitOf(c); d >= 0 {
		x.value = x.value*16 + d
		x.digits++
		return x.digits <= 6
	}
	fits := x.value <= 0xD7FF || x.value >= 0xE000 && x.value <= 0x10FFFF
	return plain(c, "}") && x.digits > 0 && fits && x.single(letter{r: x.value})
}

func (x *scanner) feedItem(c letter) bool {
	switch {
	case plain(c, "*+?"):
		if x.state != "count" {
			return false
		}
		last := &x.pieces[len(x.pieces)-1]
		last.least = map[rune]int{'*': 0, '+': 1, '?': 0}[c.r]
		last.most = map[rune]int{'*': -1, '+': -1, '?': 1}[c.r]
		x.state = "item"
	case plain(c, "^$"):
		x.pieces = append(x.pieces, piece{mark: c.r})
		x.state = "item"
	case plain(c, "."):
		x.pieces = append(x.pieces, piece{mark: '.', least: 1, most: 1})
		x.state = "count"
	case plain(c, "["):
		x.pieces = append(x.pieces, piece{set: true, least: 1, most: 1})
		x.state = "setFirst"
	case plain(c, `\`):
		x.home, x.state = x.state, "escape"
	default:
		return x.single(c)
	}
	return true
}

func (x *scanner) feedSet(c letter) bool {
	last := &x.pieces[len(x.pieces)-1]
	switch {
	case plain(c, "^") && x.state == "setFirst":
		last.not = true
		x.state = "setHead"
	case plain(c, "]"):
		if x.state != "set" && x.state != "setDash" {
			return false
		}
		x.state = "count"
	case plain(c, "-"):
		if x.state != "setDash" {
			return false
		}
		last.elements = last.elements[:len(last.elements)-1]
		x.state = "setEnd"
	case plain(c, `\`):
		x.home, x.state = x.state, "escape"
	default:
		x.home = x.state
		return x.single(c)
	}
	return true
}

func (x *scanner) feedEscape(c letter) bool {
	x.value, x.digits = 0, 0
	switch {
	case plain(c, "i"):
		first := x.home == "first"
		x.fold, x.state = true, "item"
		return first
	case plain(c, "wWsS"):
		return x.kind(c.r)
	case plain(c, "nrt"):
		return x.single(letter{r: map[rune]rune{'n': 10, 'r': 13, 't': 9}[c.r]})
	case plain(c, "xu"):
		x.state = string(c.r)
		return true
	case plain(c, "!\"#$%&'()*+,-./:;<=>?@[\\]^_`{|}~"):
		return x.single(c)
	}
	return false
}

func (x *scanner) kind(k rune) bool {
	switch x.home {
	case "setEnd":
		return false
	case "first", "item", "count":
		x.pieces = append(x.pieces, piece{elements: []element{{kind: k}}, least: 1, most: 1})
		x.state = "count"
	default:
		last := &x.pieces[len(x.pieces)-1]
		last.elements = append(last.elements, element{kind: k})
		x.state = "set"
	}
	return true
}

// single takes a single character at its last written one.
func (x *scanner) single(c letter) bool {
	c.from, c.to = 0, 0
	if x.state == "first" || x.state == "item" || x.state == "count" {
		x.home = x.state
	}
	switch x.home {
	case "first", "item", "count":
		x.pieces = append(x.pieces, piece{elements: []element{{low: c, high: c}}, least: 1, most: 1})
		x.state = "count"
	case "setEnd":
		if c.wrong || x.low.wrong || c.r < x.low.r {
			return false
		}
		last := &x.pieces[len(x.pieces)-1]
		last.elements = append(last.elements, element{low: x.low, high: c})
		x.state = "set"
	default:
		last := &x.pieces[len(x.pieces)-1]
		last.elements = append(last.elements, element{low: c, high: c})
		x.low, x.state = c, "setDash"
	}
	return true
}

// readOf is what a pattern comes to: whether it is folded, its items; or the place of its fault, else -1.
func readOf(p string) (*scanner, int) {
	x := &scanner{state: "first"}
	for _, c := range lettersOf(p) {
		if !x.feed(c) {
			return nil, c.from
		}
	}
	if x.state != "first" && x.state != "item" && x.state != "count" {
		return nil, len(p)
	}
	return x, -1
}

func (e element) has(c letter) bool {
	is := false
	switch e.kind {
	case 'w', 'W':
		is = !c.wrong && kinds.Word(c.r)
	case 's', 'S':
		is = !c.wrong && kinds.Blank(c.r)
	case 0:
		return c.wrong == e.low.wrong && c.r >= e.low.r && c.r <= e.high.r
	}
	return is == (e.kind == 'w' || e.kind == 's')
}

// has says whether a character is of the item's kind, by the chapter's words.
func (x piece) has(c letter, fold bool) bool {
	if x.mark == '.' {
		return c.wrong || c.r != 0xA && c.r != 0xD && c.r != 0x85 && c.r != 0x2028 && c.r != 0x2029
	}
	if fold && !x.set && x.elements[0].kind == 0 && !x.elements[0].low.wrong {
		return !c.wrong && kinds.Fold(c.r) == kinds.Fold(x.elements[0].low.r)
	}
	is := false
	for _, e := range x.elements {
		is = is || e.has(c)
		if fold && x.set && !c.wrong {
			is = is || e.has(letter{r: kinds.Fold(c.r)})
		}
	}
	return is != x.not
}

// laid is a text that patterns are held against: its characters, and at which of its places lines begin and end.
type laid struct {
	text         string
	letters      []letter
	begins, ends map[int]bool
}

func lay(s string) laid {
	x := laid{s, lettersOf(s), map[int]bool{0: true}, map[int]bool{len(s): true}}
	for n := 0; n < len(x.letters); n++ {
		c := x.letters[n]
		for _, end := range []string{"\r\n", "\n", "\r", "\u0085", "\u2028", "\u2029"} {
			if strings.HasPrefix(s[c.from:], end) {
				x.ends[c.from], x.begins[c.from+len(end)] = true, true
				if end == "\r\n" {
					n++
				}
				break
			}
		}
	}
	return x
}

// placeOf is the place of the character number n.
func (x laid) placeOf(n int) int {
	if n == len(x.letters) {
		return len(x.text)
	}
	return x.letters[n].from
}

// holds says for each item and each character whether it is of the item's kind.
func (x laid) holds(p *scanner) [][]bool {
	var l [][]bool
	for _, it := range p.pieces {
		row := make([]bool, len(x.letters))
		for n, c := range x.letters {
			row[n] = it.mark != '^' && it.mark != '$' && it.has(c, p.fold)
		}
		l = append(l, row)
	}
	return l
}

// longest is the number of the last character place that the items lead to from another one, -1 if none does. From item to item it knows all places that those ahead lead to.
func (x laid) longest(p *scanner, holds [][]bool, from int) int {
	here := make([]bool, len(x.letters)+1)
	here[from] = true
	for k, it := range p.pieces {
		there := make([]bool, len(here))
		for n := from; n < len(here); n++ {
			at := x.placeOf(n)
			switch {
			case it.mark == '^':
				there[n] = here[n] && x.begins[at]
				continue
			case it.mark == '$':
				there[n] = here[n] && x.ends[at]
				continue
			}
			there[n] = here[n] && it.least == 0
			if n > from && holds[k][n-1] {
				there[n] = there[n] || here[n-1] || it.most < 0 && there[n-1]
			}
		}
		here = there
	}
	for n := len(here) - 1; n >= from; n-- {
		if here[n] {
			return n
		}
	}
	return -1
}

// matches is for each place of the text the end of the longest piece from there on, -1 if there is none; for what is no place nothing.
func (x laid) matches(p *scanner) map[int]int {
	ends := map[int]int{}
	holds := x.holds(p)
	for n := range len(x.letters) + 1 {
		to := x.longest(p, holds, n)
		if to >= 0 {
			to = x.placeOf(to)
		}
		ends[x.placeOf(n)] = to
	}
	return ends
}

// findOf, lastOf and allOf look through all places.
func findOf(ends map[int]int, size, from int) (api.Piece, bool) {
	for at := max(from, 0); at <= size; at++ {
		if to, is := ends[at]; is && to >= 0 {
			return api.Piece{From: at, To: to}, true
		}
	}
	return api.Piece{}, false
}

func lastOf(ends map[int]int, size, to int) (api.Piece, bool) {
	for at := min(to, size); at >= 0; at-- {
		if to, is := ends[at]; is && to >= 0 {
			return api.Piece{From: at, To: to}, true
		}
	}
	return api.Piece{}, false
}

func allOf(ends map[int]int, size int) []api.Piece {
	var l []api.Piece
	from := 0
	for {
		x, is := findOf(ends, size, from)
		if !is {
			return l
		}
		l = append(l, x)
		from = max(x.To, x.From+1)
	}
}

// textsOf is all texts of up to so many of the parts, one behind the other.
func textsOf(n int, parts ...string) []string {
	l := []string{""}
	last := l
	for range n {
		var longer []string
		for _, s := range last {
			for _, part := range parts {
				longer = append(longer, s+part)
			}
		}
		l = append(l, longer...)
		last = longer
	}
	return l
}
