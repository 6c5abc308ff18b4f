package txn_test

import (
	"bytes"
	"fmt"
	"math"
	"math/rand/v2"
	"slices"
	"testing"

	"vellum/api"
	"vellum/txn"
)

// P12.5: all places and lengths on a device and around it, and places at the ends of ints, in a transaction without bytes and in one with some: which are ErrRange, and what is told.
func TestRanges(t *testing.T) {
	p := place{64, 128}
	const size = 256
	d := from(t, p.empty(size))
	puts := []put{stored(190, "abcdefgh"), freshened(0, "i"), freshened(255, "k")}
	for _, list := range [][]put{nil, puts} {
		_, x := p.filled(t, "ranges", d, list)
		shown := modelOf(list).shown(string(d.Image()))
		var numbers []int
		for n := -9; n <= size+9; n++ {
			numbers = append(numbers, n)
		}
		numbers = append(numbers, odd()...)
		for _, at := range numbers {
			for _, n := range numbers {
				lies := at >= 0 && n >= 0 && at <= size && n <= size-at
				b, e := x.Load(at, n)
				if lies && (string(b) != shown[at:at+n] || e != api.OK) || !lies && (len(b) != 0 || e != api.ErrRange) {
					t.Fatalf("Load(%d, %d) = % x, %d", at, n, b, e)
				}
				if n < 0 || n > size+9 || lies && n > 0 {
					continue
				}
				want := api.ErrRange
				if lies {
					want = api.OK
				}
				refused(t, fmt.Sprintf("%d bytes at %d", n, at), want, x.Store(at, make([]byte, n)), x.Fresh(at, make([]byte, n)))
			}
		}
		tells(t, "behind refused ones", d, x, modelOf(list))
		well(t, x.Drop())
	}
	if d.Ops() != 0 {
		t.Errorf("%d operations", d.Ops())
	}
}

// P12.5: each range that lies on a device of four lines, put in by itself as each kind.
func TestEachRange(t *testing.T) {
	p := place{64, 128}
	const size = 256
	d := from(t, p.empty(size))
	pool := p.pool(t, d)
	b := bytes.Repeat([]byte{0xee}, size)
	for at := range size {
		for n := 1; n <= size-at; n++ {
			if n > 9 && (at+n)%7 != 0 && n%64 > 1 {
				continue
			}
			for _, fresh := range []bool{false, true} {
				u := put{at, string(b[:n]), fresh}
				x := begun(t, pool)
				well(t, u.into(x))
				tells(t, u.String(), d, x, modelOf([]put{u}))
				well(t, x.Drop())
			}
		}
	}
	if d.Ops() != 0 {
		t.Errorf("%d operations", d.Ops())
	}
}

// ranges is all puts into the bytes from from up to to, of both kinds, the empty ones at both ends among them; those of number no have bytes of their own.
func ranges(no, from, to int) []put {
	l := []put{stored(from, ""), freshened(to, "")}
	for at := from; at < to; at++ {
		for end := at + 1; end <= to; end++ {
			b := rising(64)[no*16+at-from : no*16+end-from]
			l = append(l, stored(at, b), freshened(at, b))
		}
	}
	return l
}

// P12.5 to P12.7: each two puts into some bytes over the edge of a line, of a word, and at the device's end, in both orders and as both kinds: what is told, and all that a Commit does.
func TestEachTwoPuts(t *testing.T) {
	p := place{64, 192}
	d := from(t, p.empty(384))
	for _, at := range []int{316, 301, 376, 256} {
		for _, first := range ranges(0, at, at+8) {
			for _, second := range ranges(1, at, at+8) {
				puts := []put{first, second}
				p.commits(t, fmt.Sprint(puts), d, puts)
			}
		}
	}
}

// P12.5 to P12.7: each three puts into four bytes over the edge of a line.
func TestEachThreePuts(t *testing.T) {
	p := place{64, 128}
	d := from(t, p.empty(320))
	for _, first := range ranges(0, 254, 258) {
		for _, second := range ranges(1, 254, 258) {
			for _, third := range ranges(2, 254, 258) {
				puts := []put{first, second, third}
				p.commits(t, fmt.Sprint(puts), d, puts)
			}
		}
	}
}

// P12.5: a byte keeps its kind, whatever is put in behind, however often; the last bytes count.
func TestKindsStay(t *testing.T) {
	p := place{128, 192}
	d := from(t, p.empty(512))
	x := begun(t, p.pool(t, d))
	var puts []put
	for i := range 40 {
		u := put{330 + i%3, fmt.Sprintf("%08d", i), i%2 == 0}
		puts = append(puts, u)
		well(t, u.into(x))
		tells(t, fmt.Sprint(puts), d, x, modelOf(puts))
	}
	// 330 to 337 fresh by the first one; 338 by the second, logged; 339 by the third, fresh.
	extents(t, "the kinds", x, []api.Extent{{At: 338, Len: 1}})
}

// P12.6: runs that touch are one, also over the edges of lines and over many lines; a fresh byte within parts them; those at the device's ends.
func TestRuns(t *testing.T) {
	p := place{128, 192}
	d := from(t, p.empty(1024))
	for _, x := range []struct {
		puts []put
		want []api.Extent
	}{
		{nil, nil},
		{[]put{stored(64, "")}, nil},
		{[]put{freshened(64, "abc")}, nil},
		{[]put{stored(64, "abc"), stored(67, "d")}, []api.Extent{{At: 64, Len: 4}}},
		{[]put{stored(67, "d"), stored(64, "abc")}, []api.Extent{{At: 64, Len: 4}}},
		{[]put{stored(64, "abc"), stored(68, "d")}, []api.Extent{{At: 64, Len: 3}, {At: 68, Len: 1}}},
		{[]put{stored(68, "d"), stored(64, "abc")}, []api.Extent{{At: 64, Len: 3}, {At: 68, Len: 1}}},
		{[]put{stored(68, "d"), stored(64, "abc"), stored(67, "x")}, []api.Extent{{At: 64, Len: 5}}},
		{[]put{stored(68, "d"), stored(64, "abc"), freshened(67, "x")}, []api.Extent{{At: 64, Len: 3}, {At: 68, Len: 1}}},
		{[]put{freshened(67, "x"), stored(64, "abcdefg")}, []api.Extent{{At: 64, Len: 3}, {At: 68, Len: 3}}},
		{[]put{stored(383, "a"), stored(384, "b")}, []api.Extent{{At: 383, Len: 2}}},
		{[]put{stored(384, "b"), stored(383, "a")}, []api.Extent{{At: 383, Len: 2}}},
		{[]put{stored(382, "a"), stored(384, "b")}, []api.Extent{{At: 382, Len: 1}, {At: 384, Len: 1}}},
		{[]put{stored(383, "a"), stored(447, "b"), stored(511, "c")}, []api.Extent{{At: 383, Len: 1}, {At: 447, Len: 1}, {At: 511, Len: 1}}},
		{[]put{stored(320, rising(704))}, []api.Extent{{At: 320, Len: 704}}},
		{[]put{stored(0, rising(1024))}, []api.Extent{{At: 0, Len: 1024}}},
		{[]put{freshened(500, "x"), stored(0, rising(1024))}, []api.Extent{{At: 0, Len: 500}, {At: 501, Len: 523}}},
		{[]put{stored(1023, "z"), stored(0, "a"), stored(512, "m")}, []api.Extent{{At: 0, Len: 1}, {At: 512, Len: 1}, {At: 1023, Len: 1}}},
		{[]put{stored(64, "abcdef"), stored(66, "xy")}, []api.Extent{{At: 64, Len: 6}}},
		{[]put{stored(64, rising(64)), stored(192, rising(64)), stored(128, rising(64))}, []api.Extent{{At: 64, Len: 192}}},
	} {
		pool, y := p.filled(t, fmt.Sprint(x.puts), d, x.puts)
		extents(t, fmt.Sprint(x.puts), y, x.want)
		well(t, y.Drop())
		extents(t, "dropped", y, nil)
		well(t, begun(t, pool).Drop())
	}
}

// P12.5, P12.6, P12.10: long rows of puts and loads in one transaction, against the model.
func TestLongRowsOfPuts(t *testing.T) {
	p := place{128, 192}
	const size = 768
	r := rand.New(rand.NewPCG(12, 5))
	for range 60 {
		d := from(t, p.empty(size))
		was := d.Copy()
		pool := p.pool(t, d)
		x := begun(t, pool)
		var puts []put
		for range 60 {
			u := anyPut(r, 0, size, 1+r.IntN(200))
			puts = append(puts, u)
			well(t, u.into(x))
			tells(t, fmt.Sprint(len(puts), " puts"), d, x, modelOf(puts))
			shown := modelOf(puts).shown(string(d.Image()))
			for range 5 {
				at := r.IntN(size + 1)
				n := r.IntN(size - at + 1)
				if b, e := x.Load(at, n); string(b) != shown[at:at+n] || e != api.OK {
					t.Fatalf("%d puts: Load(%d, %d) = % x, %d", len(puts), at, n, b, e)
				}
			}
			if b, e := pool.Load(0, size); string(b) != p.empty(size) || e != api.OK {
				t.Fatalf("%d puts: the pool's Load = % x, %d", len(puts), b, e)
			}
		}
		same(t, "puts", d, was)
	}
}

// anyPut is bytes that lie from from up to to, at most so many.
func anyPut(r *rand.Rand, from, to, most int) put {
	n := r.IntN(min(most, to-from) + 1)
	at := from + r.IntN(to-from-n+1)
	b := make([]byte, n)
	for i := range b {
		b[i] = byte(r.Uint32())
	}
	return put{at, string(b), r.IntN(2) == 0}
}

// P12.5: bytes that were not put in are as the device has them now, not as it had them at Begin.
func TestLoadSeesTheDevice(t *testing.T) {
	p := place{128, 192}
	d := from(t, p.empty(512))
	x := begun(t, p.pool(t, d))
	puts := []put{stored(70, "ab"), freshened(73, "c")}
	for _, u := range puts {
		well(t, u.into(x))
	}
	for i := range 9 {
		well(t, d.Store(64+i, []byte{byte(0xf0 + i), byte(0xe0 + i)}))
		tells(t, fmt.Sprint("stored ", i), d, x, modelOf(puts))
	}
}

// P12.5, R5: what is put in is not changed and not kept, nor is the room behind it; what Load and Extents tell is new memory.
func TestNothingIsShared(t *testing.T) {
	p := place{128, 192}
	d := from(t, p.empty(512))
	x := begun(t, p.pool(t, d))
	room := []byte("logged and fresh, and behind")
	was := bytes.Clone(room)
	well(t, x.Store(380, room[:6]), x.Fresh(400, room[11:16:16]))
	m := modelOf([]put{stored(380, "logged"), freshened(400, "fresh")})
	tells(t, "put in", d, x, m)
	if !bytes.Equal(room, was) {
		t.Errorf("what was handed in is %q", room)
	}
	clear(room)
	tells(t, "handed in and changed", d, x, m)
	b, _ := x.Load(376, 40)
	c, _ := x.Load(376, 40)
	clear(b)
	if string(c) != m.shown(string(d.Image()))[376:416] {
		t.Errorf("two Loads share: % x", c)
	}
	l := x.Extents()
	other := x.Extents()
	clear(l)
	_ = append(l[:0], make([]api.Extent, cap(l))...)
	if !slices.Equal(other, []api.Extent{{At: 380, Len: 6}}) {
		t.Errorf("two Extents share: %v", other)
	}
	tells(t, "answers that were changed", d, x, m)
	well(t, x.Commit())
	if b, _ := d.Load(380, 25); string(b) != m.shown(p.empty(512))[380:405] {
		t.Errorf("committed: % x", b)
	}
	b, _ = p.pool(t, d).Load(380, 6)
	copy(b, "xxxxxx")
	if b, _ := d.Load(380, 6); string(b) != "logged" {
		t.Errorf("the device has % x", b)
	}
}

// calls is what is asked of a transaction and may answer ErrOff, with places that lie on the device and others.
func calls() map[string]func(x *txn.Txn) api.Errno {
	l := map[string]func(x *txn.Txn) api.Errno{"Commit": (*txn.Txn).Commit}
	for _, at := range []int{64, 512, 0, -1, 513, math.MaxInt, math.MinInt} {
		l[fmt.Sprint("Load ", at)] = func(x *txn.Txn) api.Errno {
			b, e := x.Load(at, 1)
			if e != api.OK && len(b) != 0 {
				return api.Errno(-1)
			}
			return e
		}
		l[fmt.Sprint("Store ", at)] = func(x *txn.Txn) api.Errno { return x.Store(at, []byte{1}) }
		l[fmt.Sprint("Fresh ", at)] = func(x *txn.Txn) api.Errno { return x.Fresh(at, []byte{1}) }
		l[fmt.Sprint("Store none ", at)] = func(x *txn.Txn) api.Errno { return x.Store(at, nil) }
	}
	return l
}

// P12.5, P12.6: while the device is off each call answers ErrOff, ahead of wrong places, and the transaction is over then, for good; the pool is free for another one.
func TestOffEndsIt(t *testing.T) {
	p := place{128, 192}
	for name, ask := range calls() {
		d := from(t, p.empty(512))
		pool, x := p.filled(t, name, d, []put{stored(64, "ab"), freshened(70, "c")})
		well(t, d.Crash())
		was := d.Copy()
		extents(t, name+", off", x, []api.Extent{{At: 64, Len: 2}})
		refused(t, name, api.ErrOff, ask(x))
		ended(t, name+", off", x)
		refused(t, name+", once more", api.ErrState, ask(x))
		same(t, name, d, was)
		_, e := pool.Begin()
		refused(t, name+", Begin", api.ErrOff, e)
		well(t, d.Wake())
		ended(t, name+", on again", x)
		y := begun(t, pool)
		ended(t, name+", another one open", x)
		tells(t, name+", another one", d, y, nil)
		well(t, y.Drop())
		if n, e := pool.Recover(); n != 0 || e != api.OK {
			t.Fatalf("%s: Recover = %d, %d", name, n, e)
		}
	}
}

// P12.5 to P12.8: that the power was gone, and is back, is nothing to a transaction that was not asked meanwhile; Extents and Drop do not answer ErrOff.
func TestOffAndOnAgain(t *testing.T) {
	p := place{128, 192}
	puts := []put{stored(64, "ab"), freshened(70, "c"), stored(400, rising(40))}
	d := from(t, p.empty(512))
	pool, x := p.filled(t, "on", d, puts)
	well(t, d.Store(66, []byte("zz")), d.Crash(0, 1))
	extents(t, "off", x, modelOf(puts).runs(512, false))
	well(t, d.Wake())
	tells(t, "on again", d, x, modelOf(puts))
	refused(t, "Begin", api.ErrState, func() api.Errno { _, e := pool.Begin(); return e }())
	want := modelOf(puts).shown(string(d.Image()))
	well(t, x.Commit())
	if b := string(d.Image()); b[:128] != want[:128] || b[320:] != want[320:] {
		t.Errorf("committed: % x", b)
	}
	x = begun(t, pool)
	well(t, x.Store(64, []byte("dropped")), d.Crash())
	was := d.Copy()
	well(t, x.Drop())
	ended(t, "dropped while off", x)
	same(t, "dropped while off", d, was)
	well(t, d.Wake())
	begun(t, pool)
}

// P12.8, P12.10: behind Drop it never was: the device is as it was, and the next transaction knows nothing of it.
func TestDrop(t *testing.T) {
	p := place{128, 192}
	r := rand.New(rand.NewPCG(12, 8))
	d := from(t, p.empty(512))
	well(t, d.Store8(64, 1), d.Flush(64), d.Store8(72, 2), d.Arm(api.Arm{After: 1}))
	was := d.Copy()
	pool := p.pool(t, d)
	for round := range 200 {
		x := begun(t, pool)
		tells(t, "a new one", d, x, nil)
		for range r.IntN(6) {
			well(t, anyPut(r, 0, 512, 100).into(x))
		}
		well(t, x.Drop())
		ended(t, fmt.Sprint("round ", round), x)
		same(t, "Drop", d, was)
		well(t, pool.State())
	}
}

// P12.4, P12.8: one that is over says nothing of the one that is open, and can't end it.
func TestOneThatIsOverEndsNoOther(t *testing.T) {
	p := place{128, 192}
	d := from(t, p.empty(512))
	pool := p.pool(t, d)
	old := begun(t, pool)
	well(t, old.Store(64, []byte("old")), old.Drop())
	x := begun(t, pool)
	well(t, x.Store(70, []byte("new")))
	ended(t, "the old one", old)
	tells(t, "the new one", d, x, modelOf([]put{stored(70, "new")}))
	well(t, d.Crash())
	ended(t, "the old one, off", old)
	well(t, d.Wake())
	tells(t, "the new one", d, x, modelOf([]put{stored(70, "new")}))
	_, e := pool.Begin()
	refused(t, "Begin", api.ErrState, e)
	well(t, x.Commit())
}
