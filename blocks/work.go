package blocks

import (
	"slices"

	"vellum/api"
	"vellum/txn"
)

// Work is what is done to blocks all at once.
type Work struct {
	made         *Work // as a heap's
	h            *Heap
	t            *txn.Txn
	taken, given set
	free         []int // blocks that Take may take, rising; nil until it is asked: most works take none
}

// none says whether w is no work that Begin has made.
func (w *Work) none() bool { return w == nil || w.made != w }

// over says whether it is not the one that is open any more.
func (w *Work) over() bool { return w.h.open != w }

// end lets it be over: of what was taken and given nothing stays.
func (w *Work) end() {
	w.taken, w.given, w.free = nil, nil, nil
	w.h.open = nil
}

// ready is the error that a call begins with; one that is answered ErrOff is over.
func (w *Work) ready() api.Errno {
	switch {
	case w.none():
		return api.ErrNil
	case w.over():
		return api.ErrState
	}
	// Each device has the place 0: so what this answers is said of the transaction alone.
	_, code := w.t.Load(0, 0)
	if code != api.OK {
		w.end()
	}
	return code
}

// readyFor is the error that a call of a block begins with.
func (w *Work) readyFor(b int) api.Errno {
	code := w.ready()
	if code != api.OK || w.taken.has(b) {
		return code
	}
	if !w.h.live.has(b) || w.given.has(b) {
		return api.ErrBlock
	}
	return api.OK
}

// Take takes the least block that is neither live nor taken.
func (w *Work) Take() (int, api.Errno) {
	if code := w.ready(); code != api.OK {
		return 0, code
	}
	if w.free == nil {
		w.free = w.h.free()
	}
	if len(w.free) == 0 {
		return 0, api.ErrSpace
	}
	b := w.free[0]
	w.free = w.free[1:]
	w.taken.add(b)
	return b, api.OK
}

// Give gives a block back. What was live stays so until the commit, and can't be taken: if the power goes, it must hold what it held.
func (w *Work) Give(b int) api.Errno {
	if code := w.readyFor(b); code != api.OK {
		return code
	}
	if !w.taken.has(b) {
		w.given.add(b)
		return api.OK
	}
	delete(w.taken, b)
	i, _ := slices.BinarySearch(w.free, b)
	w.free = slices.Insert(w.free, i, b)
	return api.OK
}

// Read is the bytes of a block, as they would be behind a commit.
func (w *Work) Read(b int) ([]byte, api.Errno) {
	if code := w.readyFor(b); code != api.OK {
		return nil, code
	}
	return w.t.Load(w.h.place(b), api.BlockSize)
}

// Write puts all bytes of a block in.
func (w *Work) Write(b int, data []byte) api.Errno {
	if code := w.readyFor(b); code != api.OK {
		return code
	}
	if len(data) != api.BlockSize {
		return api.ErrArg
	}
	put := w.t.Store
	// At a block that is not live nobody looks ahead of the commit.
	if w.taken.has(b) {
		put = w.t.Fresh
	}
	return put(w.h.place(b), data)
}

// Root is the root, as it would be behind a commit.
func (w *Work) Root() (uint64, api.Errno) {
	if code := w.ready(); code != api.OK {
		return 0, code
	}
	b, code := w.t.Load(api.RootAt, api.WordSize)
	if code != api.OK {
		return 0, code
	}
	return number(b), api.OK
}

// SetRoot puts the root in.
func (w *Work) SetRoot(v uint64) api.Errno {
	if code := w.ready(); code != api.OK {
		return code
	}
	return w.t.Store(api.RootAt, laid(v))
}

// number is the number of some bytes, the lowest one first.
func number(b []byte) uint64 {
	v := uint64(0)
	for i, x := range b {
		v |= uint64(x) << (8 * i)
	}
	return v
}

// laid is the bytes of a number, the lowest one first.
func laid(v uint64) []byte {
	b := make([]byte, api.WordSize)
	for i := range b {
		b[i] = byte(v >> (8 * i))
	}
	return b
}

// Blocks is how many blocks the heap has.
func (w *Work) Blocks() int {
	if w.none() {
		return 0
	}
	return w.h.n
}

// Taken is the blocks that were taken and not given back, rising; of one that is over nothing is there.
func (w *Work) Taken() []int {
	if w.none() {
		return nil
	}
	return w.taken.rising()
}

// Given is the live blocks that were given, rising; of one that is over nothing is there.
func (w *Work) Given() []int {
	if w.none() {
		return nil
	}
	return w.given.rising()
}

// Commit makes all of it at once; whatever it answers, the work is over.
func (w *Work) Commit() api.Errno {
	if code := w.ready(); code != api.OK {
		return code
	}
	code := w.t.Commit()
	switch code {
	case api.OK:
		w.settle()
	case api.ErrOff:
		// The transaction is over already.
	default:
		w.t.Drop()
	}
	w.end()
	return code
}

// settle lets the blocks that are in use be the live ones.
func (w *Work) settle() {
	for b := range w.given {
		delete(w.h.live, b)
	}
	for b := range w.taken {
		w.h.live.add(b)
	}
}

// Drop forgets all of it.
func (w *Work) Drop() api.Errno {
	switch {
	case w.none():
		return api.ErrNil
	case w.over():
		return api.ErrState
	}
	w.t.Drop()
	w.end()
	return api.OK
}
