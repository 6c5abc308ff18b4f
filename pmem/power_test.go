package pmem_test

import (
	"math"
	"slices"
	"testing"

	"vellum/api"
	"vellum/pmem"
)

// P8.5, P8.6: the rows of the examples.
func TestArmExamples(t *testing.T) {
	d := made(t, 128)
	all(t, d, arm(api.Arm{After: 2}), store8(0, ones))
	if e := d.Store8(8, ones); e != api.ErrOff || !d.Off() || d.Ops() != 2 {
		t.Errorf("the second store: %d, off %v, %d operations", e, d.Off(), d.Ops())
	}
	d = made(t, 128)
	for _, x := range []struct {
		do   call
		want api.Errno
	}{
		{arm(api.Arm{After: 0}), api.ErrArg},
		{arm(api.Arm{After: 1, Keep: []int{-1}}), api.ErrArg},
		{wake(), api.ErrState},
		{arm(api.Arm{After: 2}, api.Arm{After: 1}), api.OK},
		{store(0, rising(24)), api.ErrOff},
		{wake(), api.OK},
		{store8(0, ones), api.ErrOff},
	} {
		if e := x.do.do(d); e != x.want {
			t.Errorf("%s = %d", x.do.name, e)
		}
	}
	if d.Ops() != 3 {
		t.Errorf("%d operations", d.Ops())
	}
}

// P8.5: arms that may not be, at the beginning of a list, within, and at its end; nothing of the list waits then.
func TestArmRefused(t *testing.T) {
	good := api.Arm{After: 1, Keep: []int{0, 1, math.MaxInt}}
	for _, bad := range []api.Arm{{}, {After: -1}, {After: math.MinInt}, {After: 0, Keep: []int{1}}, {After: 1, Keep: []int{-1}}, {After: math.MaxInt, Keep: []int{0, 0, 0, math.MinInt}}, {After: 1, Keep: append(make([]int, 1000), -1)}} {
		for _, l := range [][]api.Arm{{bad}, {bad, good}, {good, bad}, {good, bad, good}, append(make64(good), bad), append([]api.Arm{bad}, make64(good)...)} {
			d := made(t, 64)
			if e := d.Arm(l...); e != api.ErrArg {
				t.Errorf("Arm of %d with %v = %d", len(l), bad, e)
			}
			all(t, d, store8(0, ones), arm(make64(good)...))
		}
	}
}

// P8.5: as many as may wait and one more, at once and one by one, and again when one has left; of those that are too many none waits.
func TestArmLong(t *testing.T) {
	late := api.Arm{After: math.MaxInt}
	for n := range 65 {
		d := made(t, 64)
		all(t, d, arm(make64(late)[:n]...), arm())
		if e := d.Arm(append(make64(late), late)[n:]...); e != api.ErrLong {
			t.Errorf("%d arms behind %d: %d", 65-n, n, e)
		}
		all(t, d, arm(make64(late)[n:]...), arm())
		if e := d.Arm(late); e != api.ErrLong {
			t.Errorf("one arm behind 64: %d", e)
		}
	}
	d := made(t, 64)
	if e := d.Arm(slices.Repeat([]api.Arm{late}, 1000)...); e != api.ErrLong {
		t.Errorf("1000 arms: %d", e)
	}
	for range 64 {
		all(t, d, arm(api.Arm{After: 1}))
	}
	for n := range 200 {
		if e := d.Arm(late); e != api.ErrLong {
			t.Errorf("round %d: one more: %d", n, e)
		}
		if e := d.Fence(); e != api.ErrOff {
			t.Errorf("round %d: Fence: %d", n, e)
		}
		all(t, d, wake(), arm(api.Arm{After: 1}))
	}
}

// P8.5: the first arm counts from when it became the first one on: not what was done ahead of it.
func TestArmCounts(t *testing.T) {
	d := made(t, 128)
	all(t, d, store8(0, ones), flush(0), fence(), arm(api.Arm{After: 3}, api.Arm{After: 2}))
	all(t, d, store8(0, ones), load(0, 128), flush(0), arm(api.Arm{After: 1}), store(5, ""))
	for _, c := range []call{store8(4, 1), store(127, "ab"), flush(128), load(0, 129), arm(api.Arm{}), crash(-1), wake()} {
		if e := c.do(d); e == api.OK || e == api.ErrOff {
			t.Errorf("%s = %d", c.name, e)
		}
	}
	for n, calls := range [][]call{{fence()}, {wake(), store8(8, ones), store8(16, ones)}, {wake(), flush(127)}} {
		last := len(calls) - 1
		all(t, d, calls[:last]...)
		if e := calls[last].do(d); e != api.ErrOff || !d.Off() {
			t.Errorf("arm %d: %s = %d", n, calls[last].name, e)
		}
	}
	all(t, d, wake(), store(0, rising(128)), fence())
	if d.Ops() != 9+17 {
		t.Errorf("%d operations", d.Ops())
	}
}

// P8.6: an arm behind each operation of a store over three lines: that many words are stored, each line keeps what the arm says.
func TestArmWithinStore(t *testing.T) {
	image, put := rising(192), string(make([]byte, 150))
	for after := 1; after <= 20; after++ {
		for _, keep := range [][]int{nil, {9, 0}, {0, 1, 2}, {3, 4, 5, 6}, {math.MaxInt, math.MaxInt, math.MaxInt}} {
			d, m := from(t, image), modelOf(image)
			calls := []call{arm(api.Arm{After: after, Keep: keep}), store(13, put)}
			for i, c := range calls {
				bothDo(t, d, m, c, calls[:i+1])
			}
			sameAs(t, d, m, calls)
			if !d.Off() || d.Ops() != after {
				t.Errorf("After %d: off %v, %d operations", after, d.Off(), d.Ops())
			}
		}
	}
	d := from(t, image)
	all(t, d, arm(api.Arm{After: 21}), store(13, put))
	if d.Off() || d.Ops() != 20 {
		t.Errorf("After 21: off %v, %d operations", d.Off(), d.Ops())
	}
}

// P8.6: the operation behind which the power goes was done, a Flush and a Fence too.
func TestArmBehindTheDone(t *testing.T) {
	for _, x := range []struct {
		ahead []call
		last  call
		keep  []int
		want  byte
	}{
		{nil, store8(0, ones), []int{1}, 1},
		{nil, store8(0, ones), []int{0}, 0},
		{nil, store(0, "\x01"), []int{1}, 1},
		{[]call{store8(0, ones)}, flush(0), []int{0}, 0},
		{[]call{store8(0, ones)}, flush(0), []int{1}, 1},
		{[]call{store8(0, ones), flush(0)}, fence(), []int{0}, 1},
		{[]call{store8(0, ones), flush(0)}, fence(), []int{1}, 1},
		{[]call{store8(0, ones), flush(0), store8(0, twos)}, fence(), []int{1}, 2},
		{[]call{store8(0, ones), flush(0), store8(0, twos)}, fence(), nil, 1},
	} {
		d := made(t, 64)
		all(t, d, x.ahead...)
		all(t, d, arm(api.Arm{After: 1, Keep: x.keep}))
		if e := x.last.do(d); e != api.ErrOff || !d.Off() || d.Ops() != len(x.ahead)+1 {
			t.Errorf("%s, %s = %d, off %v, %d operations", names(x.ahead), x.last.name, e, d.Off(), d.Ops())
		}
		if got := d.Contents(0); len(got) != 1 || got[0][0] != x.want || d.Image()[0] != x.want {
			t.Errorf("%s, %s, kept %v: % x", names(x.ahead), x.last.name, x.keep, got)
		}
	}
}

// P8.6: all numbers for two lines of three and of four contents; lists that are shorter and longer than there are lines.
func TestCrashKeeps(t *testing.T) {
	d := made(t, 192)
	all(t, d, store8(0, 1), store8(0, 2), store8(64, 1), store8(64, 2), store8(64, 3))
	for _, k := range []int{0, 1, 2, 3, 4, 5, 6, 7, 11, 12, 13, math.MaxInt - 1, math.MaxInt} {
		for _, x := range []struct{ keep, want []int }{
			{[]int{k}, []int{k % 3, 0}},
			{[]int{0, k}, []int{0, k % 4}},
			{[]int{k, k}, []int{k % 3, k % 4}},
			{[]int{1, k, 7}, []int{1, k % 4}},
			{[]int{k, 2, 7, 8, 9, 10, math.MaxInt}, []int{k % 3, 2}},
		} {
			other := d.Copy()
			all(t, other, crash(x.keep...))
			if b := other.Image(); int(b[0]) != x.want[0] || int(b[64]) != x.want[1] || b[128] != 0 || other.Ops() != 5 || !other.Off() {
				t.Errorf("Crash%v: % x, %d operations, off %v", x.keep, b, other.Ops(), other.Off())
			}
			for line := range 3 {
				if n := len(other.Contents(line)); n != 1 {
					t.Errorf("Crash%v: line %d has %d contents", x.keep, line, n)
				}
			}
		}
	}
	before := d.Copy()
	for _, keep := range [][]int{{-1}, {math.MinInt}, {0, -1}, {0, 0, 0, 0, -1}, {-1, 0}} {
		if e := d.Crash(keep...); e != api.ErrArg {
			t.Errorf("Crash%v = %d", keep, e)
		}
	}
	untouched(t, d, before)
}

// P8.6: equal contents count one by one.
func TestCrashAmongTheSame(t *testing.T) {
	d := made(t, 64)
	for _, v := range []uint64{0, 0, 5, 5, 5, 0, 5} {
		all(t, d, store8(0, v))
	}
	for k, want := range []byte{0, 0, 0, 5, 5, 5, 0, 5, 0, 0, 0, 5} {
		other := d.Copy()
		all(t, other, crash(k))
		if b := other.Image(); b[0] != want {
			t.Errorf("Crash(%d): % x", k, b)
		}
	}
}

// P8.6: by Crash arms wait on, and what the first one has counted stays; it is no operation.
func TestCrashLeavesArms(t *testing.T) {
	d := made(t, 64)
	all(t, d, arm(api.Arm{After: 3}, api.Arm{After: 2}), store8(0, ones), store8(0, twos), crash(), wake(), crash(), wake())
	if e := d.Store8(0, threes); e != api.ErrOff || d.Ops() != 3 {
		t.Errorf("the third store: %d, %d operations", e, d.Ops())
	}
	all(t, d, wake(), fence(), crash(), wake())
	if e := d.Flush(63); e != api.ErrOff || d.Ops() != 5 {
		t.Errorf("the second arm: %d, %d operations", e, d.Ops())
	}
	all(t, d, wake(), fence(), fence(), fence())
}

// P8.7, and which error comes first: while it is off calls answer ErrOff, whatever else is wrong, and do nothing.
func TestOff(t *testing.T) {
	d := made(t, 64)
	if d.Off() || d.Wake() != api.ErrState {
		t.Errorf("a new one is off, or wakes")
	}
	all(t, d, arm(api.Arm{After: 2}), store8(0, ones), crash(1))
	before := d.Copy()
	for _, c := range []call{load(0, 8), load(-1, 0), load(0, 65), store8(0, 1), store8(4, 1), store8(-8, 1), store(0, "a"), store(0, ""), store(64, "a"), flush(0), flush(-1), flush(64), fence(), arm(), arm(api.Arm{After: 1}), arm(api.Arm{}), arm(make64(api.Arm{After: 1})...), crash(), crash(1), crash(-1)} {
		if e := c.do(d); e != api.ErrOff {
			t.Errorf("%s of one that is off = %d", c.name, e)
		}
	}
	untouched(t, d, before)
	all(t, d, wake())
	if d.Off() || d.Wake() != api.ErrState || d.Off() {
		t.Errorf("behind Wake it is off, or wakes again")
	}
	// What was refused was not counted, and no arm came of it.
	if e := d.Fence(); e != api.ErrOff {
		t.Errorf("the second operation: %d", e)
	}
	all(t, d, wake(), fence(), fence())
}

// R5: a list that was handed in may change: what waits does not; and it stays as it was itself.
func TestArmsAreKeptApart(t *testing.T) {
	keeps := []int{1, 1, 7, 7}
	arms := []api.Arm{{After: 2, Keep: keeps[:2]}, {After: 1, Keep: keeps[1:3:4]}, {After: 9}}
	d := made(t, 128)
	all(t, d, arm(arms[:2]...))
	if !slices.Equal(keeps, []int{1, 1, 7, 7}) || arms[2].After != 9 {
		t.Errorf("arms that were handed in are changed: %v, %v", keeps, arms)
	}
	clear(keeps)
	clear(arms)
	all(t, d, store8(0, ones))
	if e := d.Store8(64, twos); e != api.ErrOff || d.Image()[0] != 1 || d.Image()[64] != 2 {
		t.Errorf("the first arm: %d, % x", e, d.Image())
	}
	all(t, d, wake())
	if e := d.Store8(0, threes); e != api.ErrOff || d.Image()[0] != 3 {
		t.Errorf("the second arm: %d, % x", e, d.Image())
	}
	keep := []int{1, 5}
	all(t, d, wake(), store8(64, threes), call{"Crash", func(d device) api.Errno { return d.Crash(keep...) }})
	if !slices.Equal(keep, []int{1, 5}) || d.Image()[64] != 3 {
		t.Errorf("Crash with %v: % x", keep, d.Image())
	}
}

// P8.6: of the greatest device each line by its own number, and 0 behind the list's end.
func TestCrashOfTheGreatest(t *testing.T) {
	d := made(t, api.MaxSize)
	const lines = api.MaxSize / 64
	for line := range lines {
		all(t, d, store8(line*64+8*(line%8), ones), store8(line*64, twos))
	}
	keep := make([]int, lines-10, lines)
	for i := range keep {
		keep[i] = i % 5
	}
	all(t, d, crash(keep...))
	for line := range lines {
		k := 0
		if line < len(keep) {
			k = line % 5 % 3
		}
		var want [64]byte
		if k >= 1 {
			copy(want[8*(line%8):], "\x01\x01\x01\x01\x01\x01\x01\x01")
		}
		if k == 2 {
			copy(want[:], "\x02\x02\x02\x02\x02\x02\x02\x02")
		}
		if got := d.Contents(line); len(got) != 1 || string(got[0]) != string(want[:]) {
			t.Fatalf("line %d: % x", line, got)
		}
	}
}

// R1: a line that is stored to again and again, and flushed each time; a device all of whose lines were flushed: a call costs no more for that.
func TestManyOperations(t *testing.T) {
	d := made(t, api.MaxSize)
	const times = 1 << 19
	for n := range uint64(times) {
		if d.Store8(64, n) != api.OK || d.Flush(64) != api.OK {
			t.Fatalf("store %d", n)
		}
	}
	other := d.Copy()
	all(t, other, crash(0, times-1))
	if v := other.Image()[64:67]; string(v) != "\xFE\xFF\x07" {
		t.Errorf("content %d begins with % x", times-1, v)
	}
	all(t, d, fence())
	if l := d.Contents(1); len(l) != 1 || string(l[0][:3]) != "\xFF\xFF\x07" {
		t.Errorf("%d contents behind the Fence", len(l))
	}
	all(t, d, store(0, rising(api.MaxSize)))
	for at := 0; at < api.MaxSize; at += 64 {
		all(t, d, flush(at))
	}
	for n := range uint64(1 << 17) {
		if d.Fence() != api.OK || d.Store8(0, n) != api.OK || d.Flush(0) != api.OK {
			t.Fatalf("fence %d", n)
		}
	}
	for line := range 10 {
		if got := len(d.Contents(line)); got != max(1, 2-line) {
			t.Errorf("line %d has %d contents", line, got)
		}
	}
}

// P8.9: with an empty list all is as it is durable, by an arm and by Crash.
func TestEmptyListKeepsTheDurable(t *testing.T) {
	image := rising(192)
	for _, last := range [][]call{{crash()}, {arm(api.Arm{After: 1}), fence()}, {arm(api.Arm{After: 1, Keep: []int{}}), store(0, "xyz")}} {
		d := from(t, image)
		all(t, d, store(0, string(make([]byte, 192))), flush(64), fence(), store8(64, ones), flush(128))
		var e api.Errno
		for _, c := range last {
			e = c.do(d)
		}
		want := image[:64] + string(make([]byte, 64)) + image[128:]
		if last[len(last)-1].name == "Fence()" {
			want = image[:64] + string(make([]byte, 128))
		}
		if got := string(d.Image()); got != want || !d.Off() {
			t.Errorf("%s = %d: % x", names(last), e, got)
		}
	}
}

var _ device = (*pmem.Device)(nil)
