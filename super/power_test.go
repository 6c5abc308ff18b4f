package super_test

import (
	"bytes"
	"fmt"
	"math/rand/v2"
	"testing"

	"vellum/api"
	"vellum/pmem"
	"vellum/super"
)

// torn says what is wrong with a device on which the power went within a Format, its lines having had one content each; nothing, if P10.4 holds.
func torn(d *pmem.Device, was string) string {
	now := string(d.Image())
	if now[behind:] != was[behind:] {
		return "other bytes are changed"
	}
	if now[:behind] == was[:behind] {
		return ""
	}
	s, e := super.Read(d)
	switch {
	case e == api.ErrSuper && s == api.Super{}:
		return ""
	case e == api.OK && s == planOf(d.Size()) && now[64:behind] == zeros(128):
		return ""
	}
	return fmt.Sprintf("Read = %v, %d, behind it % x", s, e, now[64:behind])
}

// cutOff lets the power go behind the after-th operation of a Format, with each choice of what lines keep: it answers ErrOff, and has done the operations up to there alone. What is left is handed on.
func cutOff(t *testing.T, name string, d *pmem.Device, after int, then func(name string, left *pmem.Device)) {
	t.Helper()
	stopped := d.Copy()
	for _, o := range formatting(d.Size())[:after] {
		well(t, o(stopped))
	}
	for _, keep := range keeps(stopped) {
		got, want := d.Copy(), stopped.Copy()
		well(t, got.Arm(api.Arm{After: after, Keep: keep}), want.Crash(keep...))
		at := fmt.Sprintf("%s, the power going behind %d, lines keeping %v", name, after, keep)
		checkFormat(t, at, got, api.Super{}, api.ErrOff)
		// Behind a loss of power each line has one content: so the images tell all of them.
		if got.Ops() != want.Ops() || !got.Off() || !bytes.Equal(got.Image(), want.Image()) {
			t.Fatalf("%s: %d operations, off %v, % x", at, got.Ops(), got.Off(), got.Image()[:behind])
		}
		well(t, got.Wake())
		then(at, got)
	}
}

// P10.2, P10.4: the power goes behind each operation of a Format, with each choice of what lines keep; each of the three outcomes comes about.
func TestThePowerGoesWithinFormat(t *testing.T) {
	for _, size := range []int{least, least + 64, least + 256} {
		for name, d := range beginnings(t, size) {
			was := string(d.Image())
			var kept, none, done int
			for after := 1; after <= 40; after++ {
				cutOff(t, fmt.Sprintf("%d bytes, %s", size, name), d, after, func(at string, left *pmem.Device) {
					if wrong := torn(left, was); wrong != "" {
						t.Fatalf("%s: %s", at, wrong)
					}
					if string(left.Image()) == was {
						kept++
					}
					heads := string(left.Image()[64:behind])
					switch _, e := super.Read(left); {
					case e != api.OK:
						none++
					case heads == zeros(128):
						done++
					}
				})
			}
			if kept == 0 || none == 0 || done == 0 {
				t.Fatalf("%s: as it was %d times, none %d, done %d", name, kept, none, done)
			}
		}
	}
}

// P10.2: also where lines had several contents: Format has done its operations up to there, and nothing more.
func TestThePowerGoesWithinFormatOfBusyDevices(t *testing.T) {
	for name, d := range busy(t, least) {
		for after := 1; after <= 40; after++ {
			cutOff(t, name, d, after, func(string, *pmem.Device) {})
		}
	}
}

// P10.4: the greatest device, at the ends of each of the four writes.
func TestThePowerGoesWithinFormatOfTheGreatestDevice(t *testing.T) {
	d := from(t, begins(greatest, laidOf(planOf(greatest))))
	was := string(d.Image())
	for _, after := range []int{1, 8, 9, 10, 18, 20, 28, 30, 31, 37, 38, 39, 40} {
		for k := range 9 {
			got := d.Copy()
			well(t, got.Arm(api.Arm{After: after, Keep: []int{k, k, k}}))
			checkFormat(t, "the greatest device", got, api.Super{}, api.ErrOff)
			well(t, got.Wake())
			if wrong := torn(got, was); wrong != "" || got.Ops() != after {
				t.Fatalf("behind %d, lines keeping %d: %d operations, %s", after, k, got.Ops(), wrong)
			}
		}
	}
}

// P10.2: the power goes behind the operation that follows a Format: it goes well.
func TestThePowerGoesBehindFormat(t *testing.T) {
	d := made(t, least)
	well(t, d.Arm(api.Arm{After: 41}))
	checkFormat(t, "an arm behind it", d, planOf(least), api.OK)
	if e := d.Fence(); e != api.ErrOff {
		t.Fatalf("Fence = %d", e)
	}
}

// P10.2: arms that wait behind the first one see no operation of a Format that was cut off.
func TestArmsInARow(t *testing.T) {
	d := from(t, rising(least))
	for after := 1; after <= 40; after++ {
		well(t, d.Arm(api.Arm{After: after}, api.Arm{After: 1}))
		for _, done := range []int{after, 1} {
			ops := d.Ops()
			for range 2 {
				checkFormat(t, "arms in a row", d, api.Super{}, api.ErrOff)
				if d.Ops()-ops != done {
					t.Fatalf("%d operations, not %d", d.Ops()-ops, done)
				}
			}
			well(t, d.Wake())
		}
	}
	checkFormat(t, "no arm any more", d, planOf(least), api.OK)
}

// lasts lets the power go with each choice of what the first three lines keep, twice: the plan and empty heads are there.
func lasts(t *testing.T, name string, d *pmem.Device) {
	t.Helper()
	for _, keep := range append(keeps(d), nil, []int{1, 1, 1, 1}, []int{7, 5, 3, 9}) {
		lost := d.Copy()
		well(t, lost.Crash(keep...))
		for range 2 {
			well(t, lost.Wake())
			checkRead(t, name, lost, planOf(d.Size()), api.OK)
			checkRoot(t, name, lost, 0, api.OK)
			if b, e := lost.Load(64, 128); string(b) != zeros(128) || e != api.OK {
				t.Fatalf("%s: the heads are % x, %d", name, b, e)
			}
			well(t, lost.Crash(1, 1, 1))
		}
	}
}

// P10.4: behind a Format that went well, whatever was there, and whatever is stored behind the heads; not where something is stored in them.
func TestFormatLasts(t *testing.T) {
	for _, size := range []int{least, least + 64, 1 << 16} {
		for _, all := range []map[string]*pmem.Device{beginnings(t, size), busy(t, size)} {
			for name, d := range all {
				name = fmt.Sprintf("%d bytes, %s", size, name)
				checkFormat(t, name, d, planOf(size), api.OK)
				lasts(t, name, d)
				well(t, d.Store(behind, []byte(rising(500))), d.Store8(size-8, 1), d.Flush(behind), d.Flush(0))
				lasts(t, name+", stores", d)
				well(t, d.Fence())
				lasts(t, name+", stores, a Fence", d)
			}
		}
	}
	d := made(t, least)
	checkFormat(t, "a store in the heads", d, planOf(least), api.OK)
	well(t, d.Store8(64, 5), d.Crash(0, 1), d.Wake())
	checkRoot(t, "a store in the heads", d, 5, api.OK)
}

// P10.4: Formats that are cut off over and over, of devices that were formatted, half formatted, and stored to: each time by what stood there when it began.
func TestFormatOverAndOver(t *testing.T) {
	r := rand.New(rand.NewPCG(10, 4))
	d := from(t, rising(least))
	for round := range 6000 {
		was := string(d.Image())
		after := 1 + r.IntN(44)
		well(t, d.Arm(api.Arm{After: after, Keep: []int{r.IntN(9), r.IntN(9), r.IntN(9)}}))
		s, e := super.Format(d)
		if (e == api.OK) != (after > 40) || (e == api.OK) != (s == planOf(least)) {
			t.Fatalf("round %d: Format, the power going behind %d = %v, %d", round, after, s, e)
		}
		for !d.Off() {
			d.Fence()
		}
		well(t, d.Wake())
		if wrong := torn(d, was); wrong != "" {
			t.Fatalf("round %d, the power going behind %d: %s", round, after, wrong)
		}
		if e == api.OK {
			lasts(t, "behind the last operation", d)
		}
		if r.IntN(3) == 0 {
			at := 64 + r.IntN(24)*8
			well(t, d.Store8(at, r.Uint64()), d.Flush(at), d.Fence())
		}
		if r.IntN(9) == 0 {
			well(t, d.Store(0, []byte(laidOf(planOf(least)))), d.Flush(0), d.Fence())
		}
	}
}
