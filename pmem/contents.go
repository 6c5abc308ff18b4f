package pmem

import (
	"slices"

	"vellum/api"
)

const wordsOfLine = api.LineSize / api.WordSize

// word is the eight bytes that no loss of power tears.
type word [api.WordSize]byte

// content is what a line is at a time.
type content [wordsOfLine]word

// contentOf is the content that the first bytes of b are.
func contentOf(b []byte) content {
	var c content
	for i := range c {
		copy(c[i][:], b[i*api.WordSize:])
	}
	return c
}

// lay writes the content to the beginning of b.
func (c content) lay(b []byte) {
	for i, w := range c {
		copy(b[i*api.WordSize:], w[:])
	}
}

// bytes is the content's bytes.
func (c content) bytes() []byte {
	b := make([]byte, api.LineSize)
	c.lay(b)
	return b
}

// run is a content that a line has so many times, one right behind the other: what is stored over the same takes no room.
type run struct {
	content
	times int
}

// past is the contents of a line that stand ahead of the one that is seen.
type past struct {
	runs []run
	n    int // how many contents
}

// add puts a content behind the others.
func (p *past) add(c content) {
	p.n++
	if last := len(p.runs) - 1; last >= 0 && p.runs[last].content == c {
		p.runs[last].times++
		return
	}
	p.runs = append(p.runs, run{c, 1})
}

// drop takes away the first n contents.
func (p *past) drop(n int) {
	i, within := p.find(n)
	// As a list of its own, so that what is gone takes no room any more.
	p.runs = slices.Clone(p.runs[i:])
	p.n -= n
	if within > 0 {
		p.runs[0].times -= within
	}
}

// find is the run that has the content number k, and how many of that run stand ahead of it; behind the last one the number of runs and 0.
func (p *past) find(k int) (i, within int) {
	for i, r := range p.runs {
		if k < r.times {
			return i, k
		}
		k -= r.times
	}
	return len(p.runs), 0
}

// at is the content number k.
func (p *past) at(k int) content {
	i, _ := p.find(k)
	return p.runs[i].content
}

// bytes is the bytes of each content.
func (p *past) bytes() [][]byte {
	var l [][]byte
	for _, r := range p.runs {
		for range r.times {
			l = append(l, r.bytes())
		}
	}
	return l
}

// clone is a past that is changed apart from p.
func (p *past) clone() *past {
	return &past{runs: slices.Clone(p.runs), n: p.n}
}
