package super_test

import (
	"math"
	"testing"

	"vellum/api"
	"vellum/super"
)

func checkPlan(t *testing.T, size int, want api.Super, code api.Errno) {
	t.Helper()
	if s, e := super.Plan(size); s != want || e != code {
		t.Errorf("Plan(%d) = %v, %d; not %v, %d", size, s, e, want, code)
	}
}

func checkLine(t *testing.T, s api.Super, want string, code api.Errno) {
	t.Helper()
	if b, e := super.Line(s); string(b) != want || e != code {
		t.Errorf("Line(%v) = % x, %d; not % x, %d", s, b, e, want, code)
	}
}

// P10.1: the rows of the examples.
func TestExamplesOfPlans(t *testing.T) {
	for _, x := range []struct{ size, blocks int }{{36992, 16}, {37056, 16}, {37248, 17}, {4194304, 16255}} {
		checkPlan(t, x.size, api.Super{Size: x.size, LogAt: 128, LogSize: 32768, HeapAt: 32896, Blocks: x.blocks}, api.OK)
	}
	for _, size := range []int{36928, 36993, 4194368, -64} {
		checkPlan(t, size, api.Super{}, api.ErrSize)
	}
	first, _ := super.Plan(36992)
	if b, e := super.Line(first); e != api.OK || len(b) != 64 || string(b[:16]) != "VELLUM01\x80\x90\x00\x00\x00\x00\x00\x00" {
		t.Errorf("Line of the first one = % x, %d", b, e)
	}
	first.Blocks = 17
	checkLine(t, first, "", api.ErrSuper)
	checkLine(t, api.Super{}, "", api.ErrSuper)
}

// P10.1: a superblock, byte by byte.
func TestBytesOfASuperblock(t *testing.T) {
	want := "VELLUM01" +
		"\x80\x90\x00\x00\x00\x00\x00\x00" + // 36992
		"\x80\x00\x00\x00\x00\x00\x00\x00" + // 128
		"\x00\x80\x00\x00\x00\x00\x00\x00" + // 32768
		"\x80\x80\x00\x00\x00\x00\x00\x00" + // 32896
		"\x10\x00\x00\x00\x00\x00\x00\x00" + // 16
		"\x00\x00\x00\x00\x00\x00\x00\x00"
	sum := ^uint32(0)
	for _, x := range []byte(want) {
		for i := range 8 {
			unlike := (uint32(x>>i) ^ sum) & 1
			sum >>= 1
			if unlike == 1 {
				sum ^= 0x82F63B78
			}
		}
	}
	sum = ^sum
	want += string([]byte{byte(sum), byte(sum >> 8), byte(sum >> 16), byte(sum >> 24), 0, 0, 0, 0})
	checkLine(t, planOf(36992), want, api.OK)
}

// P10.1: all sizes, from well below 0 to well beyond the greatest one, and far ones: which may be, how many blocks they have, what their superblocks are.
func TestAllSizes(t *testing.T) {
	blocks, may := 0, 0
	for size := -1000; size <= greatest+1000; size++ {
		if size >= 32896+256*(blocks+1) {
			blocks++
		}
		if size < least || size > greatest || size%64 != 0 {
			checkPlan(t, size, api.Super{}, api.ErrSize)
			continue
		}
		may++
		want := api.Super{Size: size, LogAt: 128, LogSize: 32768, HeapAt: 32896, Blocks: blocks}
		checkPlan(t, size, want, api.OK)
		checkLine(t, want, laidOf(want), api.OK)
	}
	if may != (greatest-least)/64+1 {
		t.Errorf("%d sizes may be", may)
	}
	for _, size := range odd() {
		checkPlan(t, size, api.Super{}, api.ErrSize)
	}
}

// fields is where the numbers of a plan stand.
func fields(s *api.Super) []*int {
	return []*int{&s.Size, &s.LogAt, &s.LogSize, &s.HeapAt, &s.Blocks}
}

// P10.1: plans in which one field differs: by little, by much, by one bit. (Of another size that has as many blocks it is a plan all the same.)
func TestPlansInWhichOneFieldDiffers(t *testing.T) {
	there := 0
	for _, size := range []int{least, least + 64, least + 192, least + 256, 1 << 16, 1 << 20, greatest - 64, greatest} {
		plan := planOf(size)
		for i := range fields(&plan) {
			was := *fields(&plan)[i]
			next := []int{0, 1, -1, -was, was + 1, was - 1, was + 8, was + 64, was - 64, was + 128, was + 256, was - 256, was * 2, was / 2, was + 1<<32, was - 1<<32, least, greatest, math.MaxInt, math.MinInt}
			for bit := range 64 {
				next = append(next, was^1<<bit)
			}
			for _, n := range next {
				s := plan
				*fields(&s)[i] = n
				if s == planOf(s.Size) {
					there++
					checkLine(t, s, laidOf(s), api.OK)
					continue
				}
				checkLine(t, s, "", api.ErrSuper)
			}
		}
	}
	if there == 0 {
		t.Error("no other size has as many blocks")
	}
}

// P10.1: plans in which two fields have each other's numbers, all fields of another plan but the size, and sizes that may not be, with what would lie there.
func TestPlansOfNoSize(t *testing.T) {
	plan := planOf(1 << 16)
	for i := range 5 {
		for j := range i {
			s := plan
			f := fields(&s)
			*f[i], *f[j] = *f[j], *f[i]
			checkLine(t, s, "", api.ErrSuper)
		}
	}
	other := planOf(1 << 17)
	other.Size = plan.Size
	checkLine(t, other, "", api.ErrSuper)
	for _, size := range append(odd(), 0, -64, 64, 32896, least-64, least-1, least+1, least+8, greatest-1, greatest+1, greatest+64) {
		checkLine(t, api.Super{Size: size, LogAt: 128, LogSize: 32768, HeapAt: 32896, Blocks: (size - 32896) / 256}, "", api.ErrSuper)
		checkLine(t, api.Super{Size: size}, "", api.ErrSuper)
		checkLine(t, api.Super{Size: size, LogAt: 128, LogSize: 32768, HeapAt: 32896}, "", api.ErrSuper)
	}
	checkLine(t, api.Super{LogAt: 128, LogSize: 32768, HeapAt: 32896, Blocks: 16}, "", api.ErrSuper)
}

// P10.1, R5: what Line answers is new each time.
func TestLinesAreNew(t *testing.T) {
	plan := planOf(least)
	b, _ := super.Line(plan)
	c, _ := super.Line(plan)
	clear(b)
	_ = append(b, "more"...)
	if string(c) != laidOf(plan) {
		t.Errorf("another Line is changed: % x", c)
	}
	checkLine(t, plan, laidOf(plan), api.OK)
}
