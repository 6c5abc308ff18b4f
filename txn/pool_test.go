package txn_test

import (
	"fmt"
	"math"
	"testing"

	"vellum/api"
	"vellum/pmem"
	"vellum/txn"
	"vellum/ulog"
)

// P12.1 to P12.8: the rows of the examples.
func TestExamples(t *testing.T) {
	p := place{128, 192}
	d := from(t, zeros(512))
	pool := p.pool(t, d)
	refused(t, "State", api.OK, pool.State())
	if n, e := pool.Recover(); n != 0 || e != api.OK {
		t.Errorf("Recover = %d, %d", n, e)
	}
	x := begun(t, pool)
	if y, e := pool.Begin(); y != nil || e != api.ErrState {
		t.Errorf("Begin again = %v, %d", y, e)
	}
	well(t, x.Store(64, []byte{1, 2, 3}), x.Fresh(66, []byte{9, 9}), x.Store(400, []byte{5}))
	extents(t, "two runs", x, []api.Extent{{At: 64, Len: 3}, {At: 400, Len: 1}})
	if b, e := x.Load(64, 5); string(b) != "\x01\x02\x09\x09\x00" || e != api.OK {
		t.Errorf("Load(64, 5) = % x, %d", b, e)
	}
	if b, e := pool.Load(64, 5); string(b) != zeros(5) || e != api.OK {
		t.Errorf("the pool's Load(64, 5) = % x, %d", b, e)
	}
	want := d.Copy()
	well(t, x.Commit(),
		want.Store(67, []byte{9}), want.Flush(64),
		p.log(t, want).Write(api.Extent{At: 64, Len: 3}, api.Extent{At: 400, Len: 1}),
		want.Store(64, []byte{1, 2, 9}), want.Store(400, []byte{5}), want.Flush(64), want.Flush(384), want.Fence(),
		want.Store8(128, 0), want.Flush(128), want.Fence())
	same(t, "Commit", d, want)
	if n := d.Ops(); n != 23 {
		t.Errorf("%d operations", n)
	}
	ended(t, "Commit", x)
	x = begun(t, pool)
	well(t, x.Fresh(320, []byte("eight by")), x.Commit(), want.Store(320, []byte("eight by")), want.Flush(320), want.Fence())
	same(t, "fresh bytes alone", d, want)
	well(t, begun(t, pool).Commit())
	same(t, "no bytes", d, want)
	x = begun(t, pool)
	well(t, x.Store(130, []byte{1}))
	refused(t, "Commit of a byte of the log", api.ErrRange, x.Commit())
	well(t, x.Store(130, []byte{2}), x.Drop())
	x = begun(t, pool)
	well(t, x.Store(512, nil))
	_, e := x.Load(-1, 0)
	refused(t, "beyond the device", api.ErrRange, x.Store(511, []byte{1, 2}), e)
	same(t, "at the end", d, want)
}

// P12.1: a device or a log that is none, whatever the other one is; nothing is done to either.
func TestNewOfNone(t *testing.T) {
	p := place{128, 192}
	on, off := from(t, p.empty(512)), from(t, p.empty(512))
	byHand, copied, copiedOff := *on, *p.log(t, on), *p.log(t, off)
	well(t, on.Store8(64, 7), on.Flush(64), off.Crash())
	was, wasOff := on.Copy(), off.Copy()
	devices := []*pmem.Device{nil, {}, &byHand, on, off}
	logs := []*ulog.Log{nil, {}, &copied, &copiedOff, p.log(t, on), p.log(t, off)}
	for i, d := range devices {
		for j, l := range logs {
			if i >= 3 && j >= 4 {
				continue
			}
			if pool, e := txn.New(d, l); pool != nil || e != api.ErrNil {
				t.Errorf("New of device %d, log %d = %v, %d", i, j, pool, e)
			}
		}
	}
	same(t, "New", on, was)
	same(t, "New", off, wasOff)
}

// P12.1: of a device that is on or off, whose log is empty, holds records or none that can be read: a pool, and no operation; arms wait on.
func TestNew(t *testing.T) {
	p := place{128, 192}
	for i, image := range []string{p.empty(512), p.laid(p.empty(512), api.Extent{At: 64, Len: 3}), rising(512)} {
		for _, off := range []bool{false, true} {
			d := from(t, image)
			well(t, d.Store8(64, 1), d.Flush(64), d.Store8(72, 2), d.Arm(api.Arm{After: 1}))
			if off {
				well(t, d.Crash(1, 1))
			}
			was := d.Copy()
			for range 2 {
				pool := p.pool(t, d)
				if n := pool.Size(); n != 512 {
					t.Errorf("image %d: Size = %d", i, n)
				}
				b, e := pool.Load(60, 20)
				c, f := d.Load(60, 20)
				if string(b) != string(c) || e != f {
					t.Errorf("image %d: Load = % x, %d; not % x, %d", i, b, e, c, f)
				}
			}
			same(t, fmt.Sprint("image ", i), d, was)
		}
	}
}

// P12.1: a pool of each of several sizes; its Load at all places and lengths on the device and around it, and those at the ends of ints.
func TestPoolLoad(t *testing.T) {
	for _, size := range []int{192, 256, 320} {
		p := place{64, 128}
		d := from(t, p.empty(size))
		pool := p.pool(t, d)
		if n := pool.Size(); n != size {
			t.Errorf("Size = %d, not %d", n, size)
		}
		var numbers []int
		for n := -9; n <= size+9; n++ {
			numbers = append(numbers, n)
		}
		numbers = append(numbers, odd()...)
		for _, at := range numbers {
			for _, n := range numbers {
				b, e := pool.Load(at, n)
				if at >= 0 && n >= 0 && at <= size && n <= size-at {
					if string(b) != p.empty(size)[at:at+n] || e != api.OK {
						t.Fatalf("Load(%d, %d) = % x, %d", at, n, b, e)
					}
				} else if len(b) != 0 || e != api.ErrRange {
					t.Fatalf("Load(%d, %d) = % x, %d", at, n, b, e)
				}
			}
		}
		if d.Ops() != 0 {
			t.Errorf("%d operations", d.Ops())
		}
	}
	p := place{api.LogAt, api.LogSize}
	d := from(t, zeros(api.MaxSize))
	if n := p.pool(t, d).Size(); n != api.MaxSize {
		t.Errorf("Size = %d", n)
	}
}

// R5: what Load tells is new memory.
func TestPoolLoadIsNew(t *testing.T) {
	p := place{64, 128}
	d := from(t, p.empty(256))
	pool := p.pool(t, d)
	b, _ := pool.Load(200, 8)
	clear(b)
	if c, _ := pool.Load(200, 8); string(c) != p.empty(256)[200:208] {
		t.Errorf("Load = % x", c)
	}
}

// nones is pools that no call has made.
func nones(t *testing.T) []*txn.Pool {
	t.Helper()
	p := place{128, 192}
	on, off := p.pool(t, from(t, p.empty(512))), from(t, p.empty(512))
	byHand, byHandOff := *on, *p.pool(t, off)
	well(t, off.Crash())
	open := p.pool(t, from(t, p.empty(512)))
	begun(t, open)
	byHandOpen := *open
	return []*txn.Pool{nil, {}, &byHand, &byHandOff, &byHandOpen}
}

// P12.1 to P12.4, R3: pools that are none: ErrNil ahead of all else.
func TestPoolsThatAreNone(t *testing.T) {
	for i, p := range nones(t) {
		if n := p.Size(); n != 0 {
			t.Errorf("pool %d: Size = %d", i, n)
		}
		b, e1 := p.Load(0, 1)
		c, e2 := p.Load(-1, math.MaxInt)
		n, e3 := p.Recover()
		x, e4 := p.Begin()
		refused(t, fmt.Sprint("pool ", i), api.ErrNil, e1, e2, e3, e4, p.State())
		if len(b) != 0 || len(c) != 0 || n != 0 || x != nil {
			t.Errorf("pool %d: something beside an error", i)
		}
	}
}

// P12.5 to P12.8, R3: transactions that are none.
func TestTransactionsThatAreNone(t *testing.T) {
	p := place{128, 192}
	pool := p.pool(t, from(t, p.empty(512)))
	gone := begun(t, pool)
	well(t, gone.Drop())
	open := begun(t, pool)
	well(t, open.Store(64, []byte{1}))
	byHand, byHandGone := *open, *gone
	for i, x := range []*txn.Txn{nil, {}, &byHand, &byHandGone} {
		for _, at := range []int{0, 64, -1, math.MaxInt} {
			b, e := x.Load(at, 1)
			if len(b) != 0 {
				t.Errorf("transaction %d: % x beside an error", i, b)
			}
			refused(t, fmt.Sprint("transaction ", i), api.ErrNil, e, x.Store(at, []byte{1}), x.Fresh(at, []byte{1}), x.Store(at, nil), x.Commit(), x.Drop())
		}
		extents(t, fmt.Sprint("transaction ", i), x, nil)
	}
	extents(t, "the one that is open", open, []api.Extent{{At: 64, Len: 1}})
	well(t, open.Commit())
}

// logs is images of 512 bytes, and what State answers of each.
func logs(p place) map[string]api.Errno {
	return map[string]api.Errno{
		p.empty(512): api.OK,
		zeros(512):   api.OK,
		p.laid(p.empty(512), api.Extent{At: 64, Len: 3}):                              api.ErrState,
		p.laid(p.empty(512), api.Extent{At: 66, Len: 8}, api.Extent{At: 400, Len: 1}): api.ErrState,
		rising(512): api.ErrLog,
		over(p.laid(p.empty(512), api.Extent{At: 64, Len: 3}), 128, word(2)):        api.ErrLog,
		over(p.laid(p.empty(512), api.Extent{At: 64, Len: 3}), 216, "\xff"):         api.ErrLog,
		over(p.laid(p.empty(512), api.Extent{At: 64, Len: 3}), 128, word(1<<63)):    api.ErrLog,
		over(p.laid(p.empty(512), api.Extent{At: 64, Len: 3}), 128, word(0)):        api.OK,
		over(p.laid(p.empty(512), api.Extent{At: 64, Len: 3}), 136, rising(56)):     api.ErrState,
		over(p.laid(p.empty(512), api.Extent{At: 64, Len: 3}), 128, word(1)+"\x09"): api.ErrState,
	}
}

// P12.2, P12.4: what the log says, and Begin says it too; off goes ahead. A transaction that is open is nothing to State.
func TestStateAndBegin(t *testing.T) {
	p := place{128, 192}
	for image, want := range logs(p) {
		d := from(t, image)
		pool := p.pool(t, d)
		was := d.Copy()
		refused(t, "State", want, pool.State(), pool.State())
		x, e := pool.Begin()
		if e != want || (x != nil) != (want == api.OK) {
			t.Fatalf("Begin = %v, %d; not %d", x, e, want)
		}
		refused(t, "State behind Begin", want, pool.State())
		if x != nil {
			extents(t, "a new one", x, nil)
			well(t, x.Store(64, []byte{1}), pool.State(), x.Drop(), pool.State())
		}
		same(t, "State and Begin", d, was)
		well(t, d.Crash())
		x, e = pool.Begin()
		if x != nil {
			t.Fatalf("a transaction of a device that is off")
		}
		refused(t, "off", api.ErrOff, pool.State(), e)
		well(t, d.Wake())
		refused(t, "on again", want, pool.State())
		if _, e := pool.Begin(); e != want {
			t.Fatalf("on again: Begin = %d, not %d", e, want)
		}
	}
}

// P12.2, P12.4: the number of records is asked each time anew.
func TestStateIsAskedAnew(t *testing.T) {
	p := place{128, 192}
	d := from(t, p.empty(512))
	pool, l := p.pool(t, d), p.log(t, d)
	for range 3 {
		well(t, pool.State(), begun(t, pool).Drop(), l.Write(api.Extent{At: 70, Len: 1}))
		_, e := pool.Begin()
		refused(t, "a record", api.ErrState, pool.State(), e)
		well(t, d.Store(192, []byte{1, 2, 3}))
		_, e = pool.Begin()
		refused(t, "a record that is spoilt", api.ErrLog, pool.State(), e)
		well(t, l.Clear())
	}
}

// P12.3: what the log's Rollback answers, and does; ErrLog and no records are no operation.
func TestRecover(t *testing.T) {
	p := place{128, 192}
	for image, state := range logs(p) {
		d := from(t, image)
		well(t, d.Store8(64, 5), d.Store8(400, 6), d.Flush(400), d.Store8(408, 7))
		want := d.Copy()
		pool := p.pool(t, d)
		n, e := pool.Recover()
		m, f := p.log(t, want).Rollback()
		if n != m || e != f {
			t.Fatalf("Recover = %d, %d; not %d, %d", n, e, m, f)
		}
		same(t, "Recover", d, want)
		if state != api.ErrLog {
			well(t, pool.State(), begun(t, pool).Drop())
			n, e = pool.Recover()
			if n != 0 || e != api.OK {
				t.Fatalf("Recover once more = %d, %d", n, e)
			}
			same(t, "Recover once more", d, want)
		}
	}
}

// P12.3: the old bytes are there again, and last.
func TestRecoverBringsBack(t *testing.T) {
	p := place{128, 192}
	image := p.empty(512)
	d := from(t, p.laid(image, api.Extent{At: 64, Len: 9}, api.Extent{At: 383, Len: 2}))
	well(t, d.Store(60, make([]byte, 20)), d.Store(380, make([]byte, 9)))
	if n, e := p.pool(t, d).Recover(); n != 2 || e != api.OK {
		t.Fatalf("Recover = %d, %d", n, e)
	}
	well(t, d.Crash(), d.Wake())
	for _, x := range []api.Extent{{At: 64, Len: 9}, {At: 383, Len: 2}} {
		if b, _ := d.Load(x.At, x.Len); string(b) != image[x.At:x.At+x.Len] {
			t.Errorf("%v is % x", x, b)
		}
	}
	well(t, p.pool(t, d).State())
}

// P12.3, P12.4: off goes ahead of a transaction that is open, that ahead of what the log says; neither call ends the transaction.
func TestWhatComesFirst(t *testing.T) {
	p := place{128, 192}
	for image := range logs(p) {
		d := from(t, p.empty(512))
		pool := p.pool(t, d)
		x := begun(t, pool)
		well(t, x.Store(70, []byte("ab")), d.Store(128, []byte(image[128:320])))
		was := d.Copy()
		both := func(want api.Errno) {
			t.Helper()
			n, e := pool.Recover()
			y, f := pool.Begin()
			if n != 0 || e != want || y != nil || f != want {
				t.Fatalf("Recover = %d, %d, Begin = %v, %d; not %d", n, e, y, f, want)
			}
		}
		both(api.ErrState)
		same(t, "one is open", d, was)
		well(t, d.Crash(0, 0, len(d.Contents(2))-1, len(d.Contents(3))-1, len(d.Contents(4))-1))
		both(api.ErrOff)
		extents(t, "off", x, []api.Extent{{At: 70, Len: 2}})
		well(t, d.Wake())
		both(api.ErrState)
		tells(t, "on again", d, x, modelOf([]put{stored(70, "ab")}))
		well(t, x.Drop())
		n, e := pool.Recover()
		m, f := p.log(t, was).Rollback()
		if n != m || e != f {
			t.Fatalf("Recover = %d, %d; not %d, %d", n, e, m, f)
		}
	}
}

// R6: pools of two devices, and a new pool of one whose old one has a transaction, know nothing of each other.
func TestPoolsKnowNothingOfEachOther(t *testing.T) {
	p := place{128, 192}
	a, b := from(t, p.empty(512)), from(t, p.empty(512))
	was := b.Copy()
	x, y := begun(t, p.pool(t, a)), begun(t, p.pool(t, b))
	well(t, x.Store(64, []byte("one")), y.Fresh(64, []byte("two")))
	tells(t, "the first one", a, x, modelOf([]put{stored(64, "one")}))
	tells(t, "the second one", b, y, modelOf([]put{freshened(64, "two")}))
	well(t, x.Commit())
	same(t, "the second device", b, was)
	well(t, y.Drop(), begun(t, p.pool(t, b)).Drop())
	begun(t, p.pool(t, a))
	begun(t, p.pool(t, a))
}

// P12.1, R1: a log on another device, smaller or greater, on or off, is a wrong one; but calls end.
func TestALogOfAnotherDevice(t *testing.T) {
	p := place{128, 192}
	for _, size := range []int{320, 512, 1024} {
		for _, off := range []bool{false, true} {
			for _, image := range []string{p.empty(size), p.laid(p.empty(size), api.Extent{At: 64, Len: 3}), rising(size)} {
				d, other := from(t, p.empty(512)), from(t, image)
				if off {
					well(t, other.Crash())
				}
				pool, e := txn.New(d, p.log(t, other))
				if pool == nil || e != api.OK {
					t.Fatalf("New = %v, %d", pool, e)
				}
				pool.State()
				pool.Recover()
				if x, _ := pool.Begin(); x != nil {
					well(t, x.Store(64, []byte("ab")), x.Store(500, []byte("cd")), x.Fresh(330, []byte("ef")))
					well(t, other.Arm(api.Arm{After: 2}))
					x.Commit()
					x.Commit()
					x.Drop()
				}
				pool.Recover()
			}
		}
	}
}
