package ulog_test

import (
	"fmt"
	"math"
	"math/big"
	"math/rand/v2"
	"slices"
	"testing"

	"vellum/api"
	"vellum/pmem"
	"vellum/ulog"
)

// P11.1 to P11.6: the rows of the examples.
func TestExamples(t *testing.T) {
	image := make([]byte, 512)
	for i := range image {
		image[i] = byte(i)
	}
	p := place{128, 192}
	d := from(t, over(string(image), 128, zeros(8)))
	checkOpen(t, nil, 128, 192, api.ErrNil)
	for _, x := range [][2]int{{0, 192}, {128, 64}, {130, 192}, {448, 128}} {
		checkOpen(t, d, x[0], x[1], api.ErrArg)
	}
	checkNeed(t, 104, api.OK, 1, 8, 9)
	checkNeed(t, 0, api.OK)
	checkNeed(t, 0, api.ErrArg, 0)
	checkNeed(t, 0, api.ErrArg, math.MaxInt)
	l := p.open(t, d)
	asked := func(name string, e, want api.Errno) {
		t.Helper()
		if e != want {
			t.Errorf("%s = %d, not %d", name, e, want)
		}
	}
	rolled := func(want int) {
		t.Helper()
		if n, e := l.Rollback(); n != want || e != api.OK {
			t.Errorf("Rollback = %d, %d; not %d", n, e, want)
		}
	}
	four := api.Extent{At: 64, Len: 4}
	asked("Write({64, 4})", l.Write(four), api.OK)
	p.tells(t, "{64, 4}", d, []api.Record{{At: 64, Old: []byte{64, 65, 66, 67}}}, api.OK)
	asked("Write({70, 1})", l.Write(api.Extent{At: 70, Len: 1}), api.ErrState)
	asked("Clear", l.Clear(), api.OK)
	for _, x := range []api.Extent{{At: 64, Len: 0}, {At: 127, Len: 2}, {At: 63, Len: 1}, {At: 511, Len: 2}} {
		asked(fmt.Sprintf("Write(%v)", x), l.Write(x), api.ErrRange)
	}
	asked("Write({320, 1})", l.Write(api.Extent{At: 320, Len: 1}), api.OK)
	asked("Clear", l.Clear(), api.OK)
	one := api.Extent{At: 64, Len: 1}
	asked("Write of five", l.Write(one, one, one, one, one), api.ErrFull)
	asked("Write of four", l.Write(one, one, one, one), api.OK)
	asked("Clear", l.Clear(), api.OK)
	asked("Write({64, 4})", l.Write(four), api.OK)
	well(t, d.Store(64, make([]byte, 4)))
	rolled(1)
	if b, e := d.Load(64, 4); string(b) != "\x40\x41\x42\x43" || e != api.OK {
		t.Errorf("Load(64, 4) = % x, %d", b, e)
	}
	rolled(0)
	asked("Write()", l.Write(), api.OK)
	p.tells(t, "Write()", d, nil, api.OK)
	asked("Write({64, 4})", l.Write(four), api.OK)
	b, _ := d.Load(217, 1)
	well(t, d.Store(217, []byte{b[0] ^ 1}))
	p.tells(t, "a byte turned", d, nil, api.ErrLog)
	if n, e := l.Rollback(); n != 0 || e != api.ErrLog {
		t.Errorf("Rollback of a byte turned = %d, %d", n, e)
	}
}

// checkOpen opens a log; that is nothing to the device.
func checkOpen(t *testing.T, d *pmem.Device, at, size int, want api.Errno) {
	t.Helper()
	ops, off := d.Ops(), d.Off()
	l, e := ulog.Open(d, at, size)
	if e != want || (l != nil) != (want == api.OK) {
		t.Fatalf("%d bytes: Open(%d, %d) = %v, %d; not %d", d.Size(), at, size, l, e, want)
	}
	if d.Ops() != ops || d.Off() != off {
		t.Fatalf("%d bytes: Open(%d, %d) made %d operations, off %v", d.Size(), at, size, d.Ops()-ops, d.Off())
	}
}

// mayOpen says whether a log may lie there, by numbers without bound.
func mayOpen(device, at, size int) bool {
	end := new(big.Int).Add(big.NewInt(int64(at)), big.NewInt(int64(size)))
	return at >= 64 && at%64 == 0 && size >= 128 && size%64 == 0 && end.Cmp(big.NewInt(int64(device))) <= 0
}

// P11.1: all places and sizes on small devices and around them, and those at the ends of ints, of devices that are on and off.
func TestOpen(t *testing.T) {
	for _, size := range []int{64, 128, 192, 256, 512} {
		var numbers []int
		for n := -130; n <= size+130; n++ {
			numbers = append(numbers, n)
		}
		on := from(t, rising(size))
		well(t, on.Store8(0, 1), on.Flush(0), on.Store8(8, 2), on.Arm(api.Arm{After: 1}))
		off := from(t, rising(size))
		well(t, off.Crash())
		opened := 0
		for _, d := range []*pmem.Device{on, off} {
			was := d.Copy()
			for _, at := range append(numbers, odd()...) {
				for _, n := range append(numbers, odd()...) {
					if mayOpen(size, at, n) {
						opened++
						checkOpen(t, d, at, n, api.OK)
						continue
					}
					checkOpen(t, d, at, n, api.ErrArg)
				}
			}
			told(t, "Open", d, was)
		}
		// From each line but the first one on, to each end that leaves room.
		lines := size/64 - 1
		if want := max(0, lines*(lines-1)); opened != want {
			t.Errorf("%d bytes: %d logs, not %d", size, opened, want)
		}
	}
}

// P11.1: the greatest device.
func TestOpenOfTheGreatestDevice(t *testing.T) {
	d := from(t, zeros(api.MaxSize))
	for _, x := range [][2]int{{64, api.MaxSize - 64}, {64, 128}, {api.MaxSize - 128, 128}, {api.LogAt, api.LogSize}, {1 << 21, 1 << 21}} {
		checkOpen(t, d, x[0], x[1], api.OK)
		checkOpen(t, d, x[0], api.MaxSize-x[0]+64, api.ErrArg)
		checkOpen(t, d, x[0]+1, x[1], api.ErrArg)
		checkOpen(t, d, x[0], x[1]-1, api.ErrArg)
		checkOpen(t, d, x[0], math.MaxInt-63, api.ErrArg)
	}
	checkOpen(t, d, api.MaxSize-64, 128, api.ErrArg)
	checkOpen(t, d, api.MaxSize, 128, api.ErrArg)
}

// P11.1: a device that is none goes ahead of wrong places.
func TestOpenOfNoDevice(t *testing.T) {
	byHand := *from(t, rising(512))
	off := from(t, rising(512))
	well(t, off.Crash())
	byHandOff := *off
	for _, d := range []*pmem.Device{nil, {}, &byHand, &byHandOff} {
		for _, at := range append(odd(), 0, 63, 64, 128, 448) {
			for _, n := range append(odd(), 0, 64, 128, 192, 512) {
				checkOpen(t, d, at, n, api.ErrNil)
			}
		}
	}
}

func checkNeed(t *testing.T, want int, code api.Errno, lens ...int) {
	t.Helper()
	was := slices.Clone(lens)
	if n, e := ulog.Need(lens...); n != want || e != code {
		t.Fatalf("Need(%v) = %d, %d; not %d, %d", lens, n, e, want, code)
	}
	if !slices.Equal(lens, was) {
		t.Fatalf("Need changed %v to %v", was, lens)
	}
}

// needed asks for lengths, and holds the answer against numbers without bound.
func needed(t *testing.T, lens ...int) {
	t.Helper()
	sum := new(big.Int)
	for _, n := range lens {
		if n < 1 {
			checkNeed(t, 0, api.ErrArg, lens...)
			return
		}
		words := new(big.Int).Add(big.NewInt(int64(n)), big.NewInt(7))
		words.Div(words, big.NewInt(8))
		sum.Add(sum, words.Mul(words, big.NewInt(8)))
		sum.Add(sum, big.NewInt(24))
	}
	if !sum.IsInt64() {
		checkNeed(t, 0, api.ErrArg, lens...)
		return
	}
	checkNeed(t, int(sum.Int64()), api.OK, lens...)
}

// P11.2: each length up to some thousands, as what a record of it has; each two, each three of a few.
func TestNeed(t *testing.T) {
	for n := 1; n <= 3000; n++ {
		checkNeed(t, len(record(64, zeros(n))), api.OK, n)
	}
	for i := -3; i <= 40; i++ {
		needed(t, i)
		for j := -3; j <= 40; j++ {
			needed(t, i, j)
			for _, k := range []int{-1, 0, 1, 7, 8, 9, 16, 17} {
				needed(t, i, j, k)
			}
		}
	}
	many := slices.Repeat([]int{1, 8, 9}, 100000)
	checkNeed(t, 10400000, api.OK, many...)
	checkNeed(t, 0, api.ErrArg, append(many, 0)...)
}

// P11.2: sums around the greatest int: of one length, of two and three, wherever the great one stands.
func TestNeedOfGreatLengths(t *testing.T) {
	var lens []int
	for i := range 80 {
		lens = append(lens, math.MaxInt-i, math.MaxInt/2-i, math.MaxInt/2+i, math.MinInt+i)
	}
	lens = append(lens, odd()...)
	for _, n := range lens {
		needed(t, n)
		for _, m := range []int{1, 8, 9, 24, 25, 32, 33, 0, -1} {
			needed(t, n, m)
			needed(t, m, n)
			needed(t, m, n, m)
		}
	}
	r := rand.New(rand.NewPCG(11, 2))
	for range 20000 {
		n, m := lens[r.IntN(len(lens))], lens[r.IntN(len(lens))]
		needed(t, n, m)
		needed(t, n, m, 1+r.IntN(100))
		needed(t, 1+r.IntN(math.MaxInt-1), 1+r.IntN(math.MaxInt-1))
	}
	// As many words as are left behind the 24 bytes of each record, and one byte more.
	checkNeed(t, math.MaxInt-7, api.OK, math.MaxInt-31)
	checkNeed(t, 0, api.ErrArg, math.MaxInt-30)
	checkNeed(t, math.MaxInt-7, api.OK, math.MaxInt-63, 1)
	checkNeed(t, 0, api.ErrArg, math.MaxInt-63, 9)
	checkNeed(t, 0, api.ErrArg, math.MaxInt-31, 1)
}

// P11.3 to P11.6: a log that is none goes ahead of a device that is off, and that ahead of all else: extents that may not be, none at all, records that are no log's contents.
func TestLogsThatAreNoneOrOff(t *testing.T) {
	p := place{128, 192}
	whole := from(t, p.empty(512))
	off := from(t, p.laid(512, 1, record(64, "abc")))
	spoilt := from(t, rising(512))
	good, there, wrong := p.open(t, whole), p.open(t, off), p.open(t, spoilt)
	byHand, byHandOff := *good, *there
	well(t, off.Store8(64, 5), off.Crash(0, 1), spoilt.Crash())
	wasOff, wasSpoilt, was := off.Copy(), spoilt.Copy(), whole.Copy()
	for _, x := range []struct {
		name string
		l    *ulog.Log
		want api.Errno
	}{
		{"nil", nil, api.ErrNil},
		{"one that no call made", &ulog.Log{}, api.ErrNil},
		{"one that was copied by hand", &byHand, api.ErrNil},
		{"one that was copied by hand, of a device that is off", &byHandOff, api.ErrNil},
		{"one of a device that is off", there, api.ErrOff},
		{"one of a device that is off, and no log's contents", wrong, api.ErrOff},
		{"one that was opened while the device was off", p.open(t, off), api.ErrOff},
	} {
		list, e1 := x.l.Records()
		n, e2 := x.l.Rollback()
		if len(list) != 0 || n != 0 {
			t.Fatalf("%s: %v, %d beside an error", x.name, list, n)
		}
		for i, e := range []api.Errno{
			e1, e2, x.l.Clear(), x.l.Write(), x.l.Write(api.Extent{At: 64, Len: 1}), x.l.Write(api.Extent{}), x.l.Write(api.Extent{At: 64, Len: 64}, api.Extent{At: 320, Len: 192}),
			x.l.Write(api.Extent{At: math.MinInt, Len: math.MaxInt}), x.l.Write(make([]api.Extent, 1000)...),
		} {
			if e != x.want {
				t.Fatalf("%s: call %d = %d, not %d", x.name, i, e, x.want)
			}
		}
	}
	same(t, "one that is off", off, wasOff)
	same(t, "one that is off, and no log's contents", spoilt, wasSpoilt)
	same(t, "one that was copied by hand", whole, was)
	well(t, off.Wake())
	p.tells(t, "on again", off, []api.Record{{At: 64, Old: []byte("abc")}}, api.OK)
	if n, e := there.Rollback(); n != 1 || e != api.OK {
		t.Fatalf("on again: Rollback = %d, %d", n, e)
	}
}

// P11.1, R6: all that a log is lies on the device: two of one place tell the same, and two of other places know nothing of each other.
func TestLogsOfOneDevice(t *testing.T) {
	p, q := place{128, 128}, place{384, 192}
	d := from(t, q.laid(640, 0))
	well(t, d.Store8(128, 0))
	a, b, other := p.open(t, d), p.open(t, d), q.open(t, d)
	well(t, a.Write(api.Extent{At: 64, Len: 3}), other.Write(api.Extent{At: 256, Len: 9}, api.Extent{At: 600, Len: 40}))
	image := string(d.Image())
	p.tells(t, "the first one", d, of(image, []api.Extent{{At: 64, Len: 3}}), api.OK)
	q.tells(t, "the second one", d, of(image, []api.Extent{{At: 256, Len: 9}, {At: 600, Len: 40}}), api.OK)
	if e := b.Write(api.Extent{At: 64, Len: 3}); e != api.ErrState {
		t.Errorf("Write of the same place = %d", e)
	}
	well(t, b.Clear())
	p.tells(t, "cleared by another one", d, nil, api.OK)
	well(t, a.Write(api.Extent{At: 65, Len: 1}))
	if n, e := other.Rollback(); n != 2 || e != api.OK {
		t.Errorf("Rollback of the second one = %d, %d", n, e)
	}
	p.tells(t, "behind a Rollback of the second one", d, of(image, []api.Extent{{At: 65, Len: 1}}), api.OK)
}
