package table

import (
	"bytes"
	"slices"

	"vellum/api"
	"vellum/blocks"
)

// part is one of a plan: cells, one behind the other, and the block in which they are to stand.
type part struct {
	cells []byte
	block int
	was   []byte // what stands in the block; nil of a part that has none yet
}

// bare says whether it has no block.
func (p part) bare() bool { return p.was == nil }

// size is how many bytes the cells of parts have.
func size(parts []part) int {
	n := 0
	for _, p := range parts {
		n += len(p.cells)
	}
	return n
}

// reference is that of parts: of the first one's block; 0, if there is none.
func reference(parts []part) uint32 {
	if len(parts) == 0 {
		return 0
	}
	return uint32(parts[0].block) + 1
}

// find is the part that has the byte number at of the cells, and how many of its own stand ahead of that; at the end of all it is the last one, with all of its bytes.
func find(parts []part, at int) (int, int) {
	k := 0
	for k+1 < len(parts) && at >= len(parts[k].cells) {
		at -= len(parts[k].cells)
		k++
	}
	return k, at
}

// with is the plan of a table into which cells come, at a place in bytes.
func with(parts []part, at int, cells []byte, room int) []part {
	if len(parts) == 0 {
		return cut(part{cells: cells}, room)
	}
	k, at := find(parts, at)
	p := parts[k]
	p.cells = slices.Concat(p.cells[:at], cells, p.cells[at:])
	return slices.Concat(parts[:k], cut(p, room), parts[k+1:])
}

// cut is a part as many, none of which has more than there is room for; the block is the first one's.
func cut(p part, room int) []part {
	var parts []part
	for len(p.cells) > room {
		first := p
		// Cut so that the first one's cells never grow into the next one's.
		first.cells = p.cells[:room:room]
		parts = append(parts, first)
		p = part{cells: p.cells[room:]}
	}
	return append(parts, p)
}

// without is the plan of a table out of which the bytes from one place to another go; parts that have none left go, too.
func without(parts []part, from, to int) []part {
	var plan []part
	for _, p := range parts {
		n := len(p.cells)
		p.cells = slices.Concat(p.cells[:within(from, n)], p.cells[within(to, n):])
		if len(p.cells) > 0 {
			plan = append(plan, p)
		}
		from, to = from-n, to-n
	}
	return plan
}

// within is the place from 0 to n that is next to another one.
func within(at, n int) int { return min(max(at, 0), n) }

// fit says whether two neighbours have so few cells that one part would do.
func fit(p, next part, room int) bool { return len(p.cells)+len(next.cells) <= room }

// joined is two neighbours as one.
func joined(p, next part) part {
	one := p
	if p.bare() {
		one = next
	}
	one.cells = append(p.cells, next.cells...)
	return one
}

// settle lets the first two neighbours of which one part would do be one, as long as there are such. (A change leaves three of them at most: so it is not often gone through anew.)
func settle(plan []part, room int) []part {
parts:
	for {
		for k := 1; k < len(plan); k++ {
			if fit(plan[k-1], plan[k], room) {
				plan[k-1] = joined(plan[k-1], plan[k])
				plan = slices.Delete(plan, k, k+1)
				continue parts
			}
		}
		return plan
	}
}

// carryOut lets a table be as a plan says; it is the reference that it has then.
func carryOut(w *blocks.Work, parts, plan []part, cell int) (uint32, api.Errno) {
	if code := take(w, plan); code != api.OK {
		return 0, code
	}
	if code := giveOthers(w, parts, plan); code != api.OK {
		return 0, code
	}
	for k, p := range plan {
		if code := write(w, p, reference(plan[k+1:]), cell); code != api.OK {
			return 0, code
		}
	}
	return reference(plan), api.OK
}

// take takes a block for each part that has none.
func take(w *blocks.Work, plan []part) api.Errno {
	for k, p := range plan {
		if !p.bare() {
			continue
		}
		b, code := w.Take()
		if code != api.OK {
			return code
		}
		plan[k].block = b
	}
	return api.OK
}

// giveOthers gives those blocks of a table that no part of a plan has.
func giveOthers(w *blocks.Work, parts, plan []part) api.Errno {
	kept := map[int]struct{}{}
	for _, p := range plan {
		kept[p.block] = struct{}{}
	}
	for _, p := range parts {
		if _, is := kept[p.block]; is {
			continue
		}
		if code := w.Give(p.block); code != api.OK {
			return code
		}
	}
	return api.OK
}

// write lays a part into its block, if that has other bytes, or was taken just now.
func write(w *blocks.Work, p part, next uint32, cell int) api.Errno {
	block := laid(next, p.cells, cell)
	if bytes.Equal(block, p.was) {
		return api.OK
	}
	return w.Write(p.block, block)
}
