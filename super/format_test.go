package super_test

import (
	"bytes"
	"fmt"
	"testing"

	"vellum/api"
	"vellum/pmem"
	"vellum/super"
)

func checkFormat(t *testing.T, name string, d *pmem.Device, want api.Super, code api.Errno) {
	t.Helper()
	if s, e := super.Format(d); s != want || e != code {
		t.Fatalf("%s: Format = %v, %d; not %v, %d", name, s, e, want, code)
	}
}

func checkRead(t *testing.T, name string, d *pmem.Device, want api.Super, code api.Errno) {
	t.Helper()
	if s, e := super.Read(d); s != want || e != code {
		t.Fatalf("%s: Read = %v, %d; not %v, %d", name, s, e, want, code)
	}
}

func checkRoot(t *testing.T, name string, d *pmem.Device, want uint64, code api.Errno) {
	t.Helper()
	if n, e := super.Root(d); n != want || e != code {
		t.Fatalf("%s: Root = %x, %d; not %x, %d", name, n, e, want, code)
	}
}

// P10.2, P10.3: the rows of the examples.
func TestExamplesOfDevices(t *testing.T) {
	d := from(t, string(bytes.Repeat([]byte{255}, 36992)))
	plan := api.Super{Size: 36992, LogAt: 128, LogSize: 32768, HeapAt: 32896, Blocks: 16}
	checkRead(t, "bytes ff", d, api.Super{}, api.ErrSuper)
	checkFormat(t, "bytes ff", d, plan, api.OK)
	if d.Ops() != 40 {
		t.Errorf("Format made %d operations", d.Ops())
	}
	checkRead(t, "formatted", d, plan, api.OK)
	checkRoot(t, "formatted", d, 0, api.OK)
	d = made(t, 64)
	checkRead(t, "64 bytes", d, api.Super{}, api.ErrSuper)
	checkRoot(t, "64 bytes", d, 0, api.ErrSuper)
	checkFormat(t, "64 bytes", d, api.Super{}, api.ErrSize)
}

// beginnings is devices of so many bytes whose lines have one content each: of no store, of one with a root and a log's number, of ones whose superblocks are nearly right.
func beginnings(t *testing.T, size int) map[string]*pmem.Device {
	t.Helper()
	plan := planOf(size)
	line := laidOf(plan)
	other := planOf(size)
	other.Size += 64
	l := map[string]*pmem.Device{
		"bytes 0":              made(t, size),
		"bytes ff":             from(t, string(bytes.Repeat([]byte{255}, size))),
		"rising":               from(t, rising(size)),
		"formatted":            from(t, begins(size, line+zeros(128))),
		"with heads":           from(t, begins(size, line)),
		"with a root":          from(t, begins(size, line+"\x05"+zeros(127))),
		"with a log's number":  from(t, begins(size, line+zeros(64)+"\x01"+zeros(63))),
		"of another size":      from(t, begins(size, laidOf(other))),
		"lacking the sum":      from(t, begins(size, line[:56]+zeros(8))),
		"lacking the name":     from(t, begins(size, zeros(8)+line[8:])),
		"lacking the size":     from(t, begins(size, line[:8]+zeros(8)+line[16:])),
		"with another name":    from(t, begins(size, "VELLUM02"+line[8:])),
		"with the sum alone":   from(t, begins(size, zeros(56)+line[56:])),
		"with a seventh field": from(t, begins(size, line[:48]+"\x01"+line[49:])),
	}
	return l
}

// busy is devices some lines of which have several contents, and are flushed or not.
func busy(t *testing.T, size int) map[string]*pmem.Device {
	t.Helper()
	stored := from(t, begins(size, laidOf(planOf(size))))
	well(t, stored.Store8(8, 1), stored.Store8(64, 2), stored.Store8(72, 3), stored.Store(185, []byte("abcdefghijkl")), stored.Store8(size-8, 4))
	flushed := stored.Copy()
	well(t, flushed.Flush(0), flushed.Flush(64), flushed.Flush(128), flushed.Flush(192), flushed.Flush(size-1))
	ahead := flushed.Copy()
	well(t, ahead.Store8(56, 5), ahead.Store8(120, 6), ahead.Store8(128, 7), ahead.Store8(200, 8), ahead.Store8(size-16, 9))
	unfinished := made(t, size)
	for i, o := range formatting(size)[:38] {
		if i%10 != 9 {
			well(t, o(unfinished))
		}
	}
	return map[string]*pmem.Device{"stored": stored, "flushed": flushed, "flushed ahead of stores": ahead, "formatted without a Fence": unfinished}
}

// P10.2, P10.4: what Format does is what its operations do, whatever was there; Read and Root tell it.
func TestFormat(t *testing.T) {
	for _, size := range []int{least, least + 64, least + 128, least + 192, least + 256, 1 << 16, 1<<20 + 64, greatest - 64, greatest} {
		for _, all := range []map[string]*pmem.Device{beginnings(t, size), busy(t, size)} {
			for name, d := range all {
				at := fmt.Sprintf("%d bytes, %s", size, name)
				image, want := d.Image(), d.Copy()
				checkFormat(t, at, d, planOf(size), api.OK)
				for _, o := range formatting(size) {
					well(t, o(want))
				}
				same(t, at, d, want)
				now := d.Image()
				if string(now[:behind]) != laidOf(planOf(size))+zeros(128) || !bytes.Equal(now[behind:], image[behind:]) {
					t.Fatalf("%s: behind Format % x", at, now[:behind+64])
				}
				checkRead(t, at, d, planOf(size), api.OK)
				checkRoot(t, at, d, 0, api.OK)
				for line := range 3 {
					if n := len(d.Contents(line)); n != 1 {
						t.Fatalf("%s: line %d has %d contents behind Format", at, line, n)
					}
				}
			}
		}
	}
}

// P10.2: devices whose sizes may not be: nothing is done, whatever stands there.
func TestFormatOfSizesThatMayNotBe(t *testing.T) {
	line := laidOf(planOf(least))
	for size := 64; size < least; size += 64 {
		d := from(t, begins(size, line))
		well(t, d.Store8(size-8, 1), d.Flush(0))
		was := d.Copy()
		checkFormat(t, fmt.Sprint(size), d, api.Super{}, api.ErrSize)
		same(t, fmt.Sprint(size), d, was)
	}
}

// P10.2, P10.3: a device that is none goes ahead of one that is off, and that ahead of sizes that may not be and of what stands there.
func TestDevicesThatAreNoneOrOff(t *testing.T) {
	whole := from(t, begins(least, laidOf(planOf(least))))
	off := whole.Copy()
	small := made(t, 64)
	ff := from(t, string(bytes.Repeat([]byte{255}, least)))
	well(t, off.Store8(64, 1), off.Crash(1, 1), small.Crash(), ff.Crash())
	byHand, byHandOff := *whole, *off
	for _, x := range []struct {
		name string
		d    *pmem.Device
		want api.Errno
	}{
		{"nil", nil, api.ErrNil},
		{"one that no call made", &pmem.Device{}, api.ErrNil},
		{"one that was copied by hand", &byHand, api.ErrNil},
		{"one that was copied by hand while it was off", &byHandOff, api.ErrNil},
		{"one that is off", off, api.ErrOff},
		{"one of 64 bytes that is off", small, api.ErrOff},
		{"one of bytes ff that is off", ff, api.ErrOff},
	} {
		was := x.d.Copy()
		checkFormat(t, x.name, x.d, api.Super{}, x.want)
		checkRead(t, x.name, x.d, api.Super{}, x.want)
		checkRoot(t, x.name, x.d, 0, x.want)
		if was != nil {
			same(t, x.name, x.d, was)
		}
	}
	well(t, off.Wake())
	checkRead(t, "one that is on again", off, planOf(least), api.OK)
	checkFormat(t, "one that is on again", off, planOf(least), api.OK)
}
