package super_test

import (
	"encoding/binary"
	"fmt"
	"math"
	"testing"

	"vellum/api"
	"vellum/super"
)

// P10.3: a superblock with one bit turned, at each of its places; and turned back.
func TestOneBitTurned(t *testing.T) {
	for _, size := range []int{least, least + 64, 1 << 18, greatest} {
		d := from(t, begins(size, laidOf(planOf(size))))
		for bit := range 512 {
			name := fmt.Sprintf("%d bytes, bit %d turned", size, bit)
			b, _ := d.Load(bit/8, 1)
			well(t, d.Store(bit/8, []byte{b[0] ^ 1<<(bit%8)}))
			checkRead(t, name, d, api.Super{}, api.ErrSuper)
			checkRoot(t, name, d, 0, api.ErrSuper)
			well(t, d.Store(bit/8, b))
			checkRead(t, name+" back", d, planOf(size), api.OK)
		}
	}
}

// P10.3: each byte of a superblock replaced by each other one.
func TestOneByteReplaced(t *testing.T) {
	d := from(t, begins(least, laidOf(planOf(least))))
	for at := range 64 {
		b, _ := d.Load(at, 1)
		for by := 1; by < 256; by++ {
			well(t, d.Store(at, []byte{b[0] ^ byte(by)}))
			checkRead(t, fmt.Sprintf("byte %d turned by %x", at, by), d, api.Super{}, api.ErrSuper)
		}
		well(t, d.Store(at, b), d.Flush(at), d.Fence())
	}
	checkRead(t, "all bytes as they were", d, planOf(least), api.OK)
}

// P10.3: bytes behind the superblock do not count for Read.
func TestBytesBehindTheSuperblock(t *testing.T) {
	image := laidOf(planOf(least)) + zeros(least-64)
	for _, at := range []int{64, 71, 72, 127, 128, 136, 191, 192, 32895, 32896, least - 1} {
		d := from(t, image[:at]+"\xa7"+image[at+1:])
		name := fmt.Sprintf("byte %d turned", at)
		checkRead(t, name, d, planOf(least), api.OK)
		var root uint64
		if at < 72 {
			root = 0xa7 << (8 * (at - 64))
		}
		checkRoot(t, name, d, root, api.OK)
	}
}

// P10.3: the superblocks of all sizes on some devices: each one's own alone is taken for one.
func TestSuperblocksOfOtherSizes(t *testing.T) {
	var lines []string
	for size := least; size <= greatest; size += 64 {
		lines = append(lines, laidOf(planOf(size)))
	}
	for _, size := range []int{least, least + 64, 1 << 17} {
		d := made(t, size)
		own := 0
		for i, line := range lines {
			well(t, d.Store(0, []byte(line)), d.Flush(0), d.Fence())
			if least+i*64 == size {
				checkRead(t, "its own", d, planOf(size), api.OK)
				own++
				continue
			}
			name := "that of another size"
			checkRead(t, name, d, api.Super{}, api.ErrSuper)
			checkRoot(t, name, d, 0, api.ErrSuper)
		}
		if own != 1 {
			t.Fatalf("%d superblocks of %d bytes", own, size)
		}
	}
}

// P10.3: numbers that are not the plan's, with the right sum: another size with the plan's own blocks, numbers that are the same in 32 bits, a sixth number that is not 0, other names.
func TestSuperblocksThatLie(t *testing.T) {
	numbers := []uint64{least, 128, 32768, 32896, 16, 0}
	own := laid("VELLUM01", numbers...)
	d := from(t, begins(least, own))
	tell := func(name, line string) {
		t.Helper()
		well(t, d.Store(0, []byte(line)), d.Flush(0), d.Fence())
		if line == own {
			checkRead(t, name, d, planOf(least), api.OK)
			return
		}
		checkRead(t, name, d, api.Super{}, api.ErrSuper)
		checkRoot(t, name, d, 0, api.ErrSuper)
	}
	tell("its own", own)
	for i, was := range numbers {
		next := []uint64{0, 1, was + 1, was - 1, was + 64, was + 256, was << 1, was + 1<<32, math.MaxUint64, -was}
		for bit := range 64 {
			next = append(next, was^1<<bit)
		}
		for _, n := range next {
			other := append([]uint64{}, numbers...)
			other[i] = n
			tell(fmt.Sprintf("the number %d is %x", i, n), laid("VELLUM01", other...))
		}
	}
	for _, name := range []string{"VELLUM02", "VELLUM00", "vellum01", "VELLUM1\x00", "\x00ELLUM01", "10MULLEV", zeros(8)} {
		tell("the name is "+name, laid(name, numbers...))
	}
	sum := uint64(binary.LittleEndian.Uint32([]byte(own[56:])))
	for _, v := range []uint64{0, sum + 1<<32, ^sum, sum << 32, sum | 0xffffffff<<32} {
		tell("another sum", own[:56]+string(binary.LittleEndian.AppendUint64(nil, v)))
	}
	tell("bytes 0", zeros(64))
	tell("all the other way round", own[8:]+own[:8])
	tell("its own again", own)
}

// P10.3: devices whose sizes may not be, with a superblock of the least size, and with what would be theirs.
func TestReadOfSizesThatMayNotBe(t *testing.T) {
	for size := 64; size < least; size += 64 {
		s := api.Super{Size: size, LogAt: 128, LogSize: 32768, HeapAt: 32896, Blocks: (size - 32896) / 256}
		floor := s
		floor.Blocks = max(0, s.Blocks)
		for _, line := range []string{laidOf(planOf(least)), laidOf(s), laidOf(floor), laidOf(api.Super{}), zeros(64)} {
			d := from(t, begins(size, line))
			checkRead(t, fmt.Sprint(size), d, api.Super{}, api.ErrSuper)
			checkRoot(t, fmt.Sprint(size), d, 0, api.ErrSuper)
		}
	}
}

// P10.3: Read and Root of each size that may be, up to some hundreds, and of great ones.
func TestReadOfSizesThatMayBe(t *testing.T) {
	for size := least; size <= greatest; size += 64 {
		if size > least+300*64 && size < greatest-64 && size&(size-1) != 0 {
			continue
		}
		d := from(t, begins(size, laidOf(planOf(size))+"\x01\x02\x03\x04\x05\x06\x07\x08"))
		checkRead(t, fmt.Sprint(size), d, planOf(size), api.OK)
		checkRoot(t, fmt.Sprint(size), d, 0x0807060504030201, api.OK)
	}
}

// P10.3: the root is the number that is seen, whatever it is, the lowest byte first.
func TestRoots(t *testing.T) {
	d := from(t, laidOf(planOf(least))+zeros(least-64))
	numbers := []uint64{0, 1, 16, 17, 255, 256, 1<<32 - 1, 1 << 32, 1 << 63, math.MaxUint64, 0x0102030405060708}
	for bit := range 64 {
		numbers = append(numbers, 1<<bit)
	}
	for _, n := range numbers {
		well(t, d.Store8(64, n))
		checkRoot(t, "seen", d, n, api.OK)
		checkRead(t, "seen", d, planOf(least), api.OK)
	}
	well(t, d.Store8(72, 7), d.Store8(128, 9))
	checkRoot(t, "with other words behind it", d, 0x8000000000000000, api.OK)
	well(t, d.Crash(), d.Wake())
	checkRoot(t, "durable", d, 0, api.OK)
}

// P10.3: what is seen is read, not what is durable.
func TestSeenIsRead(t *testing.T) {
	d := made(t, least)
	well(t, d.Store(0, []byte(laidOf(planOf(least)))))
	checkRead(t, "seen", d, planOf(least), api.OK)
	well(t, d.Crash(), d.Wake())
	checkRead(t, "durable", d, api.Super{}, api.ErrSuper)
}

// P10.1, P10.3: no operation: nothing is stored, flushed or fenced, and no arm counts.
func TestReadingIsNoOperation(t *testing.T) {
	all := busy(t, least)
	for name, d := range beginnings(t, least) {
		all[name] = d
	}
	for name, d := range all {
		well(t, d.Arm(api.Arm{After: 1}))
		was := d.Copy()
		for range 3 {
			s, e := super.Read(d)
			_, f := super.Root(d)
			if e != f || (e == api.OK) != (s == planOf(least)) || (e != api.OK) != (s == api.Super{}) {
				t.Fatalf("%s: Read = %v, %d; Root = %d", name, s, e, f)
			}
		}
		told(t, name, d, was)
		if e := d.Fence(); e != api.ErrOff {
			t.Fatalf("%s: the arm has counted: %d", name, e)
		}
	}
}
