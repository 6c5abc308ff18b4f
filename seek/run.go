package seek

import (
	"vellum/api"
	"vellum/utf"
)

// thread is a match that may come about: where it begins, and the item that the next character must be of.
type thread struct{ item, from int }

// run is a pattern on its way over a text. It goes over the characters once, with all matches that may come about side by side, of those that are at one item the best one alone: so what it costs grows with the text and with the pattern, however the pattern could be laid over the text.
type run struct {
	items    []item
	text     string
	greatest bool // whether of the places at which matches begin the greatest one is best, not the least

	now, next []thread // the better ones ahead
	seen      []int    // by items, and for the pattern's end: the round in which it was last come to
	round     int

	at           int
	begins, ends bool // whether a line begins, ends at that place

	best  api.Piece
	found bool
}

// over is a run of the pattern over s.
func (p *Pattern) over(s string) *run {
	return &run{items: p.items, text: s, seen: make([]int, len(p.items)+1)}
}

// search is the best match that begins at a place from .. to, the longest one from there on, and whether there is one.
func (r *run) search(from, to int) (api.Piece, bool) {
	r.best, r.found = api.Piece{}, false
	r.now = r.now[:0]
	_, wide, _ := utf.Last(r.text[:from])
	ahead, _ := first(r.text[from-wide : from])
	for at := from; ; {
		behind, width := first(r.text[at:])
		r.arrive(at, ahead, behind)
		if r.greatest {
			r.start(to)
		}
		r.step(ahead)
		if !r.greatest {
			r.start(to)
		}
		r.now, r.next = r.next, r.now
		if width == 0 || len(r.now) == 0 && (at >= to || r.worse(at+1)) {
			return r.best, r.found
		}
		ahead, at = behind, at+width
	}
}

// arrive comes to a place between two characters.
func (r *run) arrive(at int, ahead, behind char) {
	r.at = at
	r.round++
	r.next = r.next[:0]
	cut := ahead == char{'\r', true} && behind == char{'\n', true}
	r.begins = at == 0 || ends(ahead) && !cut
	r.ends = at == len(r.text) || ends(behind) && !cut
}

// worse says whether a match that begins at a place is none that counts, for what is found already.
func (r *run) worse(from int) bool {
	if r.greatest {
		return r.found && from < r.best.From
	}
	return r.found && from > r.best.From
}

// start begins a match here, if one may begin.
func (r *run) start(to int) {
	if r.at <= to && !r.worse(r.at) {
		r.come(0, r.at)
	}
}

// step takes all matches over a character.
func (r *run) step(c char) {
	for _, t := range r.now {
		x := r.items[t.item]
		if r.worse(t.from) || !x.is(c) {
			continue
		}
		if x.kind == many {
			r.come(t.item, t.from)
		} else {
			r.come(t.item+1, t.from)
		}
	}
}

// come brings a match to an item, and to all behind it that are reached without a character. Who came there first this round is no worse.
func (r *run) come(n, from int) {
	for ; r.seen[n] != r.round; n++ {
		r.seen[n] = r.round
		if n == len(r.items) {
			r.best, r.found = api.Piece{From: from, To: r.at}, true
			return
		}
		switch kind := r.items[n].kind; kind {
		case lineBegins:
			if !r.begins {
				return
			}
		case lineEnds:
			if !r.ends {
				return
			}
		default:
			r.next = append(r.next, thread{n, from})
			if kind == once {
				return
			}
		}
	}
}
