package chunks

import (
	"bytes"
	"slices"

	"vellum/api"
	"vellum/blocks"
	"vellum/gap"
	"vellum/table"
	"vellum/tally"
)

// filled is a chunk with a text that it has room for, the gap at its end.
func (c chunk) filled(s string) chunk {
	c.Gap, _ = gap.Make(s)
	return c
}

// with is the plan of a text into which s comes.
func (t text) with(at int, s string) []chunk {
	row := t.chunks
	if len(row) == 0 {
		row = []chunk{chunk{}.filled("")}
	}
	k := 0
	for at > row[k].Len() {
		at -= row[k].Len()
		k++
	}
	return slices.Concat(row[:k], row[k].with(at, s), row[k+1:])
}

// with is a chunk into which s comes, as one part, or as so many as s needs.
func (c chunk) with(at int, s string) []chunk {
	if len(s) <= c.Room() {
		c.Insert(at, s)
		return []chunk{c}
	}
	was := c.Text()
	return c.cut(was[:at] + s + was[at:])
}

// cut is a text in as few parts as have room for it, nearly alike in length, the first one in the chunk's block.
func (c chunk) cut(s string) []chunk {
	k := (len(s)-1)/api.GapRoom + 1
	short, longer := len(s)/k, len(s)%k
	var l []chunk
	for i := range k {
		n := short
		if i < longer {
			n++
		}
		l = append(l, c.filled(s[:n]))
		c, s = chunk{}, s[n:]
	}
	return l
}

// without is the plan of a text out of which bytes go; chunks that have none left go, too.
func (t text) without(from, to int) []chunk {
	var plan []chunk
	for at, c := range t.told() {
		begin, end := max(from-at, 0), min(to-at, c.Len())
		// Where nothing is taken out the gap does not go there.
		if begin < end {
			c.Delete(begin, end)
		}
		if c.Len() > 0 {
			plan = append(plan, c)
		}
	}
	return plan
}

// fit says whether two neighbours have so few bytes that one would do.
func fit(c, next chunk) bool { return c.Len()+next.Len() <= api.GapRoom }

// joined is two neighbours as one.
func joined(c, next chunk) chunk {
	one := c
	if c.bare() {
		one = next
	}
	return one.filled(c.Text() + next.Text())
}

// settle lets the first two neighbours of which one would do be one, as long as there are such. What comes of two has no fewer bytes than its first one, so that nothing ahead of it fits then: to go on from there is enough.
func settle(plan []chunk) []chunk {
	var l []chunk
	for _, c := range plan {
		if last := len(l) - 1; last >= 0 && fit(l[last], c) {
			l[last] = joined(l[last], c)
			continue
		}
		l = append(l, c)
	}
	return l
}

// carryOut lets the text be as a plan says; it is the reference that it has then.
func (t text) carryOut(w *blocks.Work, ref uint32, plan []chunk) (uint32, api.Errno) {
	if code := take(w, plan); code != api.OK {
		return 0, code
	}
	if code := t.giveOthers(w, plan); code != api.OK {
		return 0, code
	}
	if code := write(w, plan); code != api.OK {
		return 0, code
	}
	return list(w, ref, cells(t.chunks), cells(plan))
}

// take takes a block for each part that has none.
func take(w *blocks.Work, plan []chunk) api.Errno {
	for k, c := range plan {
		if !c.bare() {
			continue
		}
		b, code := w.Take()
		if code != api.OK {
			return code
		}
		plan[k].block = b
	}
	return api.OK
}

// giveOthers gives those blocks of the chunks that no part of a plan has.
func (t text) giveOthers(w *blocks.Work, plan []chunk) api.Errno {
	kept := make(map[int]struct{}, len(plan))
	for _, c := range plan {
		kept[c.block] = struct{}{}
	}
	for _, c := range t.chunks {
		if _, is := kept[c.block]; is {
			continue
		}
		if code := w.Give(c.block); code != api.OK {
			return code
		}
	}
	return api.OK
}

// write lays those parts into their blocks that have other bytes there, or whose blocks were taken just now; of these something else is known then.
func write(w *blocks.Work, plan []chunk) api.Errno {
	for k, c := range plan {
		block := c.Block()
		if bytes.Equal(block, c.was) {
			continue
		}
		if code := w.Write(c.block, block); code != api.OK {
			return code
		}
		plan[k].known = tally.Of(c.Text())
	}
	return api.OK
}

// cells is the cells of chunks.
func cells(row []chunk) []cell {
	l := make([]cell, 0, len(row))
	for _, c := range row {
		l = append(l, c.cell())
	}
	return l
}

// list lets the table have other cells, where it has others; it is the reference that it has then.
func list(w *blocks.Work, ref uint32, was, now []cell) (uint32, api.Errno) {
	both := min(len(was), len(now))
	last := 0
	for last < both && was[len(was)-1-last] == now[len(now)-1-last] {
		last++
	}
	// Up to here cells are put where others were. Those that are as they were from the first one on are passed over there; they need not be counted apart, as no cell comes twice.
	end := both - last
	for i := range end {
		if was[i] == now[i] {
			continue
		}
		if code := table.Put(w, ref, cellSize, i, now[i][:]); code != api.OK {
			return 0, code
		}
	}
	switch more := len(now) - len(was); {
	case more < 0:
		return table.Delete(w, ref, cellSize, end, -more)
	case more > 0:
		return table.Insert(w, ref, cellSize, end, slicesOf(now[end:end+more])...)
	}
	return ref, api.OK
}

// slicesOf is cells as a table takes them.
func slicesOf(l []cell) [][]byte {
	var out [][]byte
	for i := range l {
		out = append(out, l[i][:])
	}
	return out
}
