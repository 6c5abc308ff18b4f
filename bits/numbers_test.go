package bits_test

import (
	"math"
	"slices"
	"testing"

	"vellum/api"
	"vellum/bits"
)

type byteKind uint8
type shortKind uint16
type midKind uint32
type longKind uint64

// P1.1: the rows of the examples, all widths, types made of them.
func TestPutLaysTheLowestByteFirst(t *testing.T) {
	const long = 0x0807060504030201
	for _, x := range []struct {
		got, want []byte
	}{
		{bits.Put([]byte{7}, uint16(513)), []byte{7, 1, 2}},
		{bits.Put(nil, uint64(1)), []byte{1, 0, 0, 0, 0, 0, 0, 0}},
		{bits.Put([]byte{}, uint8(255)), []byte{255}},
		{bits.Put(nil, uint8(0)), []byte{0}},
		{bits.Put(nil, uint16(0xfffe)), []byte{0xfe, 0xff}},
		{bits.Put([]byte{9, 8}, uint32(0x04030201)), []byte{9, 8, 1, 2, 3, 4}},
		{bits.Put(nil, uint32(0)), []byte{0, 0, 0, 0}},
		{bits.Put([]byte{0}, uint64(long)), []byte{0, 1, 2, 3, 4, 5, 6, 7, 8}},
		{bits.Put(nil, uint64(math.MaxUint64)), []byte{255, 255, 255, 255, 255, 255, 255, 255}},
		{bits.Put(nil, byteKind(0xab)), []byte{0xab}},
		{bits.Put(nil, shortKind(0xabcd)), []byte{0xcd, 0xab}},
		{bits.Put(nil, midKind(0x80000000)), []byte{0, 0, 0, 0x80}},
		{bits.Put(nil, longKind(1)<<63), []byte{0, 0, 0, 0, 0, 0, 0, 0x80}},
	} {
		if !slices.Equal(x.got, x.want) {
			t.Errorf("Put: % x, not % x", x.got, x.want)
		}
	}
}

// R5 of P1.1: neither what is handed in nor the room behind it is changed; the answer is new memory.
func TestPutSharesNothing(t *testing.T) {
	whole := []byte{1, 2, 3, 40, 50, 60, 70, 80, 90, 100, 110, 120}
	was := slices.Clone(whole)
	one := bits.Put(whole[:3], uint64(math.MaxUint64))
	two := bits.Put(whole[:3], uint64(0))
	if !slices.Equal(whole, was) {
		t.Errorf("Put changed what it was handed: %v", whole)
	}
	if !slices.Equal(one, []byte{1, 2, 3, 255, 255, 255, 255, 255, 255, 255, 255}) {
		t.Errorf("a second Put changed the first one's answer: %v", one)
	}
	one[0], two[1] = 99, 99
	if !slices.Equal(whole, was) {
		t.Error("an answer of Put shares memory with what was handed in")
	}
	whole[2] = 77
	if one[2] != 3 || two[2] != 3 || one[1] != 2 || two[0] != 1 {
		t.Error("an answer of Put shares memory with what was handed in, or with another answer")
	}
}

// P1.2: the rows of the examples, and the places at and beyond the edges.
func TestTake(t *testing.T) {
	b := []byte{1, 2, 3, 4, 5, 6, 7, 0x88}
	checkTake(t, b[:5], 1, uint32(0x05040302), api.OK)
	checkTake(t, b[:5], 0, uint32(0x04030201), api.OK)
	checkTake(t, []byte{5}, 0, uint8(5), api.OK)
	checkTake(t, b, 7, uint8(0x88), api.OK)
	checkTake(t, b, 6, uint16(0x8807), api.OK)
	checkTake(t, b, 4, uint32(0x88070605), api.OK)
	checkTake(t, b, 0, uint64(0x8807060504030201), api.OK)
	checkTake(t, b, 7, byteKind(0x88), api.OK)
	checkTake(t, b, 6, shortKind(0x8807), api.OK)
	checkTake(t, b, 4, midKind(0x88070605), api.OK)
	checkTake(t, b, 0, longKind(0x8807060504030201), api.OK)
	for _, at := range []int{-1, -2, -8, math.MinInt, math.MinInt + 7, 8, 9, math.MaxInt - 7, math.MaxInt} {
		checkTake(t, b, at, uint8(0), api.ErrRange)
		checkTake(t, b, at, uint16(0), api.ErrRange)
		checkTake(t, b, at, uint32(0), api.ErrRange)
		checkTake(t, b, at, uint64(0), api.ErrRange)
	}
	checkTake(t, b, 7, uint16(0), api.ErrRange)
	checkTake(t, b[:5], 2, uint32(0), api.ErrRange)
	checkTake(t, b, 5, uint32(0), api.ErrRange)
	checkTake(t, b, 1, uint64(0), api.ErrRange)
	for n := range 8 {
		checkTake(t, b[:n], 0, uint64(0), api.ErrRange) // the room behind the end is no part of b
	}
	checkTake(t, nil, 0, uint8(0), api.ErrRange)
	checkTake(t, nil, 0, uint64(0), api.ErrRange)
	if !slices.Equal(b, []byte{1, 2, 3, 4, 5, 6, 7, 0x88}) {
		t.Error("Take changed what it was handed")
	}
}

func checkTake[T api.Whole](t *testing.T, b []byte, at int, want T, code api.Errno) {
	t.Helper()
	if got, e := bits.Take[T](b, at); got != want || e != code {
		t.Errorf("Take[%T](% x, %d) = %x, %d; not %x, %d", want, b, at, got, e, want, code)
	}
}

// P1.6: Take of what Put has laid is the number, behind each beginning.
func TestTakeOfPut(t *testing.T) {
	roundTrip(t, uint8(0), 1, 0x7f, 0x80, 0xff)
	roundTrip(t, uint16(0), 1, 0x100, 0x8001, 0xffff)
	roundTrip(t, uint32(0), 1, 0x10203, 0x80000001, 0xffffffff)
	roundTrip(t, uint64(0), 1, 0x102030405060708, 1<<63+1, math.MaxUint64)
	roundTrip(t, shortKind(0), 0xabcd)
	roundTrip(t, longKind(0), 0xf0e0d0c0b0a09080)
}

func roundTrip[T api.Whole](t *testing.T, numbers ...T) {
	t.Helper()
	for length := range 20 {
		for _, v := range numbers {
			b := bits.Put(slices.Repeat([]byte{0xa5}, length), v)
			checkTake(t, b, length, v, api.OK)
			checkTake(t, bits.Put(b, uint32(0xffffffff)), length, v, api.OK)
			checkTake(t, b, length+1, T(0), api.ErrRange)
		}
	}
}

// P1.4: the rows of the examples, and the greatest ints.
func TestRound(t *testing.T) {
	for _, x := range []struct {
		n, to, want int
		code        api.Errno
	}{
		{0, 8, 0, api.OK},
		{1, 8, 8, api.OK},
		{8, 8, 8, api.OK},
		{9, 8, 16, api.OK},
		{16, 8, 16, api.OK},
		{7, 1, 7, api.OK},
		{7, 3, 9, api.OK},
		{0, 1, 0, api.OK},
		{0, math.MaxInt, 0, api.OK},
		{1, math.MaxInt, math.MaxInt, api.OK},
		{math.MaxInt, math.MaxInt, math.MaxInt, api.OK},
		{math.MaxInt, 1, math.MaxInt, api.OK},
		{math.MaxInt - 1, 2, math.MaxInt - 1, api.OK},
		{math.MaxInt - 2, 2, math.MaxInt - 1, api.OK},
		{math.MaxInt, 2, 0, api.ErrArg},
		{math.MaxInt - 63, 64, math.MaxInt - 63, api.OK},
		{math.MaxInt - 64, 64, math.MaxInt - 63, api.OK},
		{math.MaxInt - 62, 64, 0, api.ErrArg},
		{math.MaxInt, math.MaxInt - 1, 0, api.ErrArg},
		{-1, 8, 0, api.ErrArg},
		{math.MinInt, 8, 0, api.ErrArg},
		{5, 0, 0, api.ErrArg},
		{0, 0, 0, api.ErrArg},
		{5, -1, 0, api.ErrArg},
		{5, math.MinInt, 0, api.ErrArg},
		{math.MinInt, math.MinInt, 0, api.ErrArg},
		{math.MinInt, -1, 0, api.ErrArg},
	} {
		if got, e := bits.Round(x.n, x.to); got != x.want || e != x.code {
			t.Errorf("Round(%d, %d) = %d, %d; not %d, %d", x.n, x.to, got, e, x.want, x.code)
		}
	}
}

func TestRoundIsTheLeastMultiple(t *testing.T) {
	for n := range 200 {
		for to := 1; to < 70; to++ {
			want := 0
			for want < n {
				want += to
			}
			if got, e := bits.Round(n, to); got != want || e != api.OK {
				t.Fatalf("Round(%d, %d) = %d, %d; not %d", n, to, got, e, want)
			}
		}
	}
}
