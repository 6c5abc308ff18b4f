package body

import (
	"strings"

	"vellum/api"
	"vellum/blocks"
	"vellum/chunks"
	"vellum/utf"
)

// text is what a body stands on: a text in chunks, told by bytes.
type text struct {
	work *blocks.Work
	ref  uint32
}

// tally is what is known of it.
func (t *text) tally() (api.Tally, api.Errno) { return chunks.Tally(t.work, t.ref) }

// at is the byte place at which a character begins, by its number.
func (t *text) at(char int) (int, api.Errno) { return chunks.At(t.work, t.ref, char) }

// of is the number of the character that has a byte place.
func (t *text) of(at int) (int, api.Errno) { return chunks.Of(t.work, t.ref, at) }

// whole is all its bytes.
func (t *text) whole() (string, api.Errno) {
	known, code := t.tally()
	if code != api.OK {
		return "", code
	}
	return chunks.Read(t.work, t.ref, 0, known.Bytes)
}

// change makes a change of bytes that the text has, which is of so many bytes now.
func (t *text) change(size int, c api.Change) api.Errno {
	switch {
	case max(len(c.Old), len(c.New)) > api.MaxEdit || len(c.New) > api.MaxText-size+len(c.Old):
		return api.ErrLong
	case c.Old == c.New:
		return api.OK
	}
	// Where nothing goes, or nothing comes, the call does nothing.
	ref, code := chunks.Delete(t.work, t.ref, c.At, c.At+len(c.Old))
	if code != api.OK {
		return code
	}
	ref, code = chunks.Insert(t.work, ref, c.At, c.New)
	if code != api.OK {
		return code
	}
	t.ref = ref
	return api.OK
}

// cut is where a piece of s begins, in bytes, and its bytes: the change that takes it out.
func cut(s string, from, to int) (api.Change, api.Errno) {
	begin, code := utf.At(s, from)
	if code != api.OK {
		return api.Change{}, code
	}
	end, code := utf.At(s, to)
	switch {
	case code != api.OK:
		return api.Change{}, code
	case begin > end:
		return api.Change{}, api.ErrRange
	}
	// As a text of its own: a part of s would keep the whole of s in memory.
	return api.Change{At: begin, Old: strings.Clone(s[begin:end])}, api.OK
}
