package txn

import (
	"maps"
	"slices"

	"vellum/api"
)

// kind is how a byte was put in.
type kind int

const (
	logged kind = iota
	fresh
	kinds // how many there are
)

// mask is some of the bytes of a device line: a bit for each, the lowest for the first.
type mask uint64

// span is n bytes from the byte i on.
func span(i, n int) mask {
	// Of all 64 bytes the first shift leaves 0, and the difference all ones.
	return (mask(1)<<n - 1) << i
}

// has says whether the byte i is one of them.
func (m mask) has(i int) bool { return m>>i&1 == 1 }

// part is what was put into one device line.
type part struct {
	b  [api.LineSize]byte
	of [kinds]mask // no byte is of both
}

// put writes as many bytes as the line takes from its byte i on; it is how many.
func (p *part) put(i int, b []byte, k kind) int {
	n := copy(p.b[i:], b)
	// A byte stays of the kind that it was put in as first.
	p.of[k] |= span(i, n) &^ p.of[1-k]
	return n
}

// run is bytes of one kind at addresses next to one another.
type run struct {
	at int
	b  []byte
}

// end is the address behind it.
func (r run) end() int { return r.at + len(r.b) }

// changes is what was put in, by the addresses of device lines: not of bytes, as whatever is read is held against it.
type changes map[int]*part

// add puts in bytes that lie on the device.
func (c changes) add(at int, b []byte, k kind) {
	for len(b) > 0 {
		i := at % api.LineSize
		p, ok := c[at-i]
		if !ok {
			p = &part{}
			c[at-i] = p
		}
		n := p.put(i, b, k)
		at += n
		b = b[n:]
	}
}

// lay writes what was put in over the bytes b, which stand from at on.
func (c changes) lay(at int, b []byte) {
	for line := at - at%api.LineSize; line < at+len(b); line += api.LineSize {
		p, ok := c[line]
		if !ok {
			continue
		}
		all := p.of[logged] | p.of[fresh]
		for i, x := range p.b {
			to := line + i - at
			if to >= 0 && to < len(b) && all.has(i) {
				b[to] = x
			}
		}
	}
}

// lines is the addresses of the lines that have bytes of a kind, rising.
func (c changes) lines(k kind) []int {
	var l []int
	for _, line := range slices.Sorted(maps.Keys(c)) {
		if c[line].of[k] != 0 {
			l = append(l, line)
		}
	}
	return l
}

// runs is the runs of a kind, by rising addresses.
func (c changes) runs(k kind) []run {
	var l []run
	for _, line := range c.lines(k) {
		p := c[line]
		for i, x := range p.b {
			if !p.of[k].has(i) {
				continue
			}
			at := line + i
			if len(l) == 0 || l[len(l)-1].end() != at {
				l = append(l, run{at: at})
			}
			last := &l[len(l)-1]
			last.b = append(last.b, x)
		}
	}
	return l
}

// drop deletes all that was put in.
func (c changes) drop() {
	for line := range c {
		delete(c, line)
	}
}
