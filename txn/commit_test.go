package txn_test

import (
	"fmt"
	"math/rand/v2"
	"slices"
	"strings"
	"testing"

	"vellum/api"
	"vellum/pmem"
)

// busy is devices of 512 bytes with a log at 128 of 192 bytes and the number 0: whose lines have one content; several; of which some are flushed, all of them or as they were ahead of a store.
func busy(t *testing.T) (place, map[string]*pmem.Device) {
	t.Helper()
	p := place{128, 192}
	clean := from(t, p.empty(512))
	stored := clean.Copy()
	well(t, stored.Store8(64, 1), stored.Store(125, []byte("abc")), stored.Store8(136, 2), stored.Store8(200, 3), stored.Store8(256, 4), stored.Store8(504, 5))
	flushed := stored.Copy()
	for at := 0; at < 512; at += 64 {
		well(t, flushed.Flush(at))
	}
	ahead := flushed.Copy()
	well(t, ahead.Store8(72, 6), ahead.Store8(144, 7), ahead.Store8(192, 8), ahead.Store8(264, 9), ahead.Store8(320, 10))
	return p, map[string]*pmem.Device{"clean": clean, "stored": stored, "flushed": flushed, "flushed ahead of stores": ahead}
}

// lists is puts of each kind and of both, that touch, overlap and go over lines, and those that the log of busy devices does not take.
func lists() [][]put {
	return [][]put{
		nil,
		{stored(64, ""), freshened(400, "")},
		{stored(64, "a")},
		{freshened(64, "a")},
		{freshened(0, rising(64))},
		{freshened(320, "eight by")},
		{freshened(380, "over lines"), freshened(500, "and apart")},
		{stored(380, "over lines"), stored(500, "and apart")},
		{stored(64, rising(64))},
		{stored(320, rising(104))},
		{stored(64, "abc"), freshened(66, "de"), stored(400, "f")},
		{freshened(64, "abc"), stored(66, "de"), freshened(400, "f")},
		{stored(64, "abc"), freshened(64, "abc")},
		{freshened(64, "abc"), stored(64, "xyz")},
		{stored(70, "a"), freshened(71, "b"), stored(72, "c"), freshened(73, "d"), stored(74, "e")},
		{stored(74, "e"), freshened(73, "d"), stored(72, "c"), freshened(71, "b"), stored(70, "a")},
		{stored(383, "ab"), freshened(447, "cd"), stored(445, "ef"), freshened(449, "gh")},
		{stored(127, "a"), stored(320, "b")},
		{freshened(60, rising(40)), stored(100, "a"), freshened(101, rising(20))},
		{stored(66, rising(512)[66:70])},
		{freshened(320, rising(192)), stored(64, "root")},
		{freshened(136, rising(56)), stored(64, "root")},
		{freshened(192, rising(128)), stored(64, "root"), stored(500, "more")},
		// What the log does not take: bytes of the first line, of the log, in one run with others; too many.
		{stored(0, "a")},
		{stored(63, "ab")},
		{stored(127, "ab")},
		{stored(128, "a")},
		{stored(319, "a")},
		{stored(319, "ab"), freshened(400, "fresh")},
		{freshened(400, "fresh"), stored(64, "a"), stored(200, "b")},
		{stored(320, rising(105))},
		{stored(0, rising(512))},
		{freshened(128, rising(192)), stored(0, rising(512))},
		{freshened(63, rising(300)), stored(400, "a"), stored(402, "b"), stored(404, "c"), stored(406, "d"), stored(408, "e")},
		{stored(400, "a"), stored(402, "b"), stored(404, "c"), stored(406, "d"), stored(408, "e")},
		{stored(400, "a"), stored(402, "b"), stored(404, "c"), stored(406, "d")},
		{stored(10, "a"), stored(320, rising(192))},
		// Fresh bytes where the number of records stands.
		{freshened(128, "\x01")},
		{freshened(135, "\x80"), stored(64, "a")},
		{freshened(128, "\x01"), stored(0, rising(512))},
		{freshened(128, zeros(8)), stored(64, "a")},
	}
}

// P12.7: the operations of a Commit, on devices whose lines have one content and several, and what it answers.
func TestCommit(t *testing.T) {
	p, devices := busy(t)
	codes := map[api.Errno]int{}
	for name, d := range devices {
		for _, puts := range lists() {
			p.commits(t, fmt.Sprint(name, ", ", puts), d, puts)
			_, e := modelOf(puts).committing(p, string(d.Image()))
			codes[e]++
		}
	}
	for _, e := range []api.Errno{api.OK, api.ErrState, api.ErrRange, api.ErrFull} {
		if codes[e] == 0 {
			t.Errorf("no Commit that answers %d", e)
		}
	}
}

// P12.7: the operations, one by one, as they are told by hand.
func TestOperationsByHand(t *testing.T) {
	p := place{128, 192}
	image := p.empty(512)
	for _, x := range []struct {
		puts []put
		want string
	}{
		{nil, ""},
		{[]put{freshened(68, "abcd")}, "Store 68 61 62 63 64; Flush 64; Fence"},
		{[]put{freshened(382, "abcd"), freshened(64, "e")}, "Store 64 65; Store 382 61 62; Store 384 63 64; Flush 64; Flush 320; Flush 384; Fence"},
		{
			[]put{stored(71, "ab")},
			"Store 192 47 00 00 00 00 00 00 00; Store 200 02 00 00 00 00 00 00 00; Store 208 SUM; Store 216 48 49 00 00 00 00 00 00; Flush 192; Fence; " +
				"Store 128 01 00 00 00 00 00 00 00; Flush 128; Fence; Store 71 61; Store 72 62; Flush 64; Fence; " +
				"Store 128 00 00 00 00 00 00 00 00; Flush 128; Fence",
		},
		{
			[]put{stored(71, "ab"), freshened(72, "cd"), freshened(400, "e")},
			"Store 73 64; Store 400 65; Flush 64; Flush 384; " +
				"Store 192 47 00 00 00 00 00 00 00; Store 200 02 00 00 00 00 00 00 00; Store 208 SUM; Store 216 48 49 00 00 00 00 00 00; Flush 192; Fence; " +
				"Store 128 01 00 00 00 00 00 00 00; Flush 128; Fence; Store 71 61; Store 72 63; Flush 64; Fence; " +
				"Store 128 00 00 00 00 00 00 00 00; Flush 128; Fence",
		},
	} {
		ops, _ := modelOf(x.puts).committing(p, image)
		var names []string
		for _, o := range ops {
			if strings.HasPrefix(o.name, "Store 208 ") {
				o.name = "Store 208 SUM"
			}
			names = append(names, o.name)
		}
		if got := strings.Join(names, "; "); got != x.want {
			t.Errorf("%v: %s; not %s", x.puts, got, x.want)
		}
		p.commits(t, fmt.Sprint(x.puts), from(t, image), x.puts)
	}
}

// P12.7: any puts, of which the log takes most, on any device, one transaction behind the other.
func TestLongRowsOfCommits(t *testing.T) {
	p := place{128, 320}
	const size = 1024
	r := rand.New(rand.NewPCG(12, 7))
	codes := map[api.Errno]int{}
	for range 40 {
		d := from(t, p.empty(size))
		for round := range 40 {
			var puts []put
			for range r.IntN(10) {
				u := anyPut(r, 448, size, 1+r.IntN(90))
				switch r.IntN(16) {
				case 0:
					u = anyPut(r, 64, 128, 20)
				case 1:
					u = anyPut(r, 0, 700, 20)
				}
				// Fresh bytes count for nothing: so they are none of the log's.
				if u.fresh && u.at < 448 {
					continue
				}
				puts = append(puts, u)
			}
			_, e := modelOf(puts).committing(p, string(d.Image()))
			codes[e]++
			d = p.commits(t, fmt.Sprint("round ", round, ", ", puts), d, puts)
			if r.IntN(4) == 0 {
				at := r.IntN(size/8) * 8
				if at != p.at {
					well(t, d.Store8(at, r.Uint64()))
				}
				well(t, d.Flush(at))
			}
		}
	}
	if codes[api.OK] < 500 || codes[api.ErrFull] < 20 || codes[api.ErrRange] < 20 {
		t.Errorf("too few of a kind: %v", codes)
	}
}

// P12.7: what the log does not take leaves the transaction open, as it was: it takes more, it is committed again, with the fresh bytes written again, and it goes well, once the log takes it.
func TestOpenBehindARefusedCommit(t *testing.T) {
	p := place{128, 192}
	for _, c := range []struct {
		name string
		puts []put
		want api.Errno
	}{
		{"a byte of the log", []put{freshened(330, "fresh"), stored(130, "a"), stored(64, "b")}, api.ErrRange},
		{"too many", []put{freshened(330, "fresh"), stored(340, rising(140))}, api.ErrFull},
	} {
		d := from(t, p.empty(512))
		want := d.Copy()
		pool, x := p.filled(t, c.name, d, c.puts)
		puts := c.puts
		for i := range 3 {
			refused(t, c.name, c.want, x.Commit())
			ops, _ := modelOf(puts).committing(p, string(want.Image()))
			for _, o := range ops {
				well(t, o.do(want))
			}
			same(t, c.name, d, want)
			tells(t, c.name, d, x, modelOf(puts))
			refused(t, c.name, api.ErrState, func() api.Errno { _, e := pool.Begin(); return e }())
			refused(t, c.name, api.ErrState, func() api.Errno { _, e := pool.Recover(); return e }())
			for _, u := range []put{stored(331, fmt.Sprint(i)), freshened(500+i, "more"), stored(503, "z")} {
				well(t, u.into(x))
				puts = append(puts, u)
			}
			tells(t, c.name, d, x, modelOf(puts))
		}
		well(t, x.Drop())
		ended(t, c.name, x)
		same(t, c.name+", dropped", d, want)
		begun(t, pool)
	}
}

// P12.7: a log that got records behind Begin is ErrState, ahead of what else the log would not take; when it is cleared the Commit goes well.
func TestRecordsBehindBegin(t *testing.T) {
	p := place{128, 192}
	for _, puts := range [][]put{
		{stored(64, "abc"), freshened(400, "def")},
		{stored(64, "abc")},
		{freshened(400, "def"), stored(130, "a")},
		{stored(320, rising(190))},
	} {
		d := from(t, p.empty(512))
		_, x := p.filled(t, "records", d, puts)
		well(t, p.log(t, d).Write(api.Extent{At: 330, Len: 4}))
		want := d.Copy()
		for _, o := range modelOf(puts).writing(512, true) {
			well(t, o.do(want))
		}
		refused(t, "records", api.ErrState, x.Commit())
		same(t, fmt.Sprint(puts), d, want)
		tells(t, fmt.Sprint(puts), d, x, modelOf(puts))
		well(t, p.log(t, d).Clear(), p.log(t, want).Clear())
		ops, code := modelOf(puts).committing(p, string(d.Image()))
		refused(t, fmt.Sprint(puts), code, x.Commit())
		for _, o := range ops {
			well(t, o.do(want))
		}
		same(t, fmt.Sprint(puts), d, want)
	}
	// Fresh bytes alone do not ask the log.
	d := from(t, p.empty(512))
	_, x := p.filled(t, "fresh", d, []put{freshened(400, "def")})
	well(t, p.log(t, d).Write(api.Extent{At: 330, Len: 4}))
	ops := d.Ops()
	well(t, x.Commit())
	if d.Ops() != ops+3 {
		t.Errorf("fresh bytes alone: %d operations", d.Ops()-ops)
	}
}

// P12.7: runs of just as many bytes as the log takes, and one more; of just as many runs; the records' order is that of the addresses, whatever order they were put in.
func TestJustTheRoom(t *testing.T) {
	for size := 128; size <= 512; size += 64 {
		p := place{64, size}
		d := from(t, p.empty(64+size+1024))
		end, room := 64+size, size-64
		for n := max(1, room-24-9); n <= room-24+9; n++ {
			puts := []put{stored(end+7, rising(n))}
			if _, e := modelOf(puts).committing(p, string(d.Image())); (e == api.OK) != (n <= room-24) {
				t.Fatalf("a run of %d bytes, room for %d: %d", n, room, e)
			}
			p.commits(t, fmt.Sprint("a run of ", n), d, puts)
		}
		for runs := 1; runs <= room/32+1; runs++ {
			var puts []put
			for i := range runs {
				puts = append(puts, stored(end+900-20*i, "abcdefgh"[:1+i%8]))
			}
			if _, e := modelOf(puts).committing(p, string(d.Image())); (e == api.OK) != (runs <= room/32) {
				t.Fatalf("%d runs, room for %d: %d", runs, room, e)
			}
			p.commits(t, fmt.Sprint(runs, " runs"), d, puts)
		}
	}
}

// P12.7: as many bytes as a store's log and a device take: a run as long as the log's room; runs of single bytes; all blocks of the greatest device, fresh.
func TestAStore(t *testing.T) {
	p := place{api.LogAt, api.LogSize}
	room := api.LogSize - 64
	var many []put
	for i := range room / 32 {
		many = append(many, stored(api.HeapAt+9*(i*7%(room/32)), "x"))
	}
	for name, puts := range map[string][]put{
		"one run":                 {stored(api.HeapAt+5, rising(room-24))},
		"one run that is greater": {stored(api.HeapAt+5, rising(room-23))},
		"many runs":               many,
		"one run more":            append(slices.Clone(many), stored(api.RootAt, "y")),
		"some blocks":             {freshened(api.HeapAt+512, rising(1024)), stored(api.HeapAt, rising(256)), stored(api.RootAt, "\x03")},
	} {
		p.commits(t, name, from(t, p.empty(api.HeapAt+api.LogSize)), puts)
	}
	d := from(t, zeros(api.MaxSize))
	x := begun(t, p.pool(t, d))
	all := []byte(rising(api.MaxSize - api.HeapAt))
	well(t, x.Fresh(api.HeapAt, all), x.Store(api.HeapAt+1000, []byte("stays fresh")), x.Store(api.RootAt, []byte{7}))
	extents(t, "the greatest device", x, []api.Extent{{At: api.RootAt, Len: 1}})
	copy(all[1000:], "stays fresh")
	if b, e := x.Load(api.HeapAt, len(all)); string(b) != string(all) || e != api.OK {
		t.Errorf("Load = %d bytes, %d", len(b), e)
	}
	well(t, x.Commit())
	words, lines := len(all)/8, len(all)/64
	if n := d.Ops(); n != words+lines+4+1+1+3+1+1+1+3 {
		t.Errorf("%d operations", n)
	}
	well(t, d.Crash(), d.Wake())
	if b := d.Image(); string(b[api.HeapAt:]) != string(all) || b[api.RootAt] != 7 {
		t.Errorf("the greatest device is not what was put in")
	}
}

// P12.7: all of the greatest device as logged bytes, and every second one: the log has no room for them.
func TestTheGreatestDevice(t *testing.T) {
	p := place{api.LogAt, api.LogSize}
	d := from(t, zeros(api.MaxSize))
	pool := p.pool(t, d)
	x := begun(t, pool)
	well(t, x.Store(api.HeapAt, make([]byte, api.MaxSize-api.HeapAt)))
	extents(t, "all", x, []api.Extent{{At: api.HeapAt, Len: api.MaxSize - api.HeapAt}})
	refused(t, "all", api.ErrFull, x.Commit())
	well(t, x.Drop())
	x = begun(t, pool)
	for at := 1 << 20; at < api.MaxSize; at += 2 {
		well(t, x.Store(at, []byte{1}))
	}
	if l := x.Extents(); len(l) != 3<<19 || l[0] != (api.Extent{At: 1 << 20, Len: 1}) || l[len(l)-1] != (api.Extent{At: api.MaxSize - 2, Len: 1}) {
		t.Errorf("%d extents", len(l))
	}
	refused(t, "every second one", api.ErrFull, x.Commit())
	if d.Ops() != 0 {
		t.Errorf("%d operations", d.Ops())
	}
}
