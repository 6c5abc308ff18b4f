package bits_test

import (
	"hash/crc32"
	"slices"
	"testing"

	"vellum/bits"
)

// slowSum goes on with a register bit by bit, as the chapter tells it.
func slowSum(sum uint32, b []byte) uint32 {
	register := ^sum
	for _, x := range b {
		for i := range 8 {
			bit := uint32(x) >> i & 1
			unlike := bit != register&1
			register >>= 1
			if unlike {
				register ^= 0x82F63B78
			}
		}
	}
	return ^register
}

// bytesOf is n bytes that hang on seed.
func bytesOf(seed uint32, n int) []byte {
	b := make([]byte, n)
	for i := range b {
		seed = seed*1664525 + 1013904223
		b[i] = byte(seed >> 24)
	}
	return b
}

// P1.3: the rows of the examples.
func TestSumOfExamples(t *testing.T) {
	for _, x := range []struct {
		parts [][]byte
		want  uint32
	}{
		{nil, 0},
		{[][]byte{nil}, 0},
		{[][]byte{{}, nil, {}}, 0},
		{[][]byte{[]byte("123456789")}, 0xe3069283},
		{[][]byte{[]byte("12345"), []byte("6789")}, 0xe3069283},
		{[][]byte{nil, []byte("12345"), {}, []byte("6789"), nil}, 0xe3069283},
		{[][]byte{make([]byte, 32)}, 0x8a9136aa},
		{[][]byte{slices.Repeat([]byte{0xff}, 32)}, 0x62a8ab43},
	} {
		if got := bits.Sum(x.parts...); got != x.want {
			t.Errorf("Sum(%q) = %08x, not %08x", x.parts, got, x.want)
		}
	}
	if got := bits.More(bits.Sum([]byte("12345")), []byte("6789")); got != 0xe3069283 {
		t.Errorf("More = %08x", got)
	}
}

// P1.3: of every byte, of many lengths, of any number as the sum ahead.
func TestSumAndMoreAreCastagnolis(t *testing.T) {
	table := crc32.MakeTable(crc32.Castagnoli)
	for x := range 256 {
		b := []byte{byte(x)}
		if got, want := bits.Sum(b), crc32.Checksum(b, table); got != want {
			t.Errorf("Sum(%02x) = %08x, not %08x", x, got, want)
		}
	}
	for n := range 200 {
		b := bytesOf(uint32(n), n)
		if got, want := bits.Sum(b), crc32.Checksum(b, table); got != want {
			t.Errorf("Sum of %d bytes = %08x, not %08x", n, got, want)
		}
		for _, sum := range []uint32{0, 1, 0x7fffffff, 0x80000000, 0xffffffff, uint32(n) * 0x9e3779b9} {
			if got, want := bits.More(sum, b), slowSum(sum, b); got != want {
				t.Errorf("More(%08x, %d bytes) = %08x, not %08x", sum, n, got, want)
			}
		}
	}
	for _, sum := range []uint32{0, 1, 0xffffffff, 0x82F63B78} {
		if got := bits.More(sum, nil); got != sum {
			t.Errorf("More(%08x, nothing) = %08x", sum, got)
		}
	}
}

// R5 of P1.3: what is handed in stays as it is.
func TestSumChangesNothing(t *testing.T) {
	whole := bytesOf(5, 40)
	was := slices.Clone(whole)
	parts := [][]byte{whole[:10], whole[10:20]}
	bits.Sum(parts[:1]...)
	bits.Sum(parts...)
	bits.More(3, whole[20:30])
	if !slices.Equal(whole, was) || len(parts[0]) != 10 || len(parts[1]) != 10 {
		t.Error("what was handed in has changed")
	}
}

// P1.6: however bytes are cut in parts, the sum is that of them all.
func TestSumOfPartsIsSumOfTheWhole(t *testing.T) {
	whole := bytesOf(7, 40)
	want := bits.Sum(whole)
	for i := range len(whole) + 1 {
		for j := i; j <= len(whole); j++ {
			a, b, c := whole[:i], whole[i:j], whole[j:]
			if got := bits.Sum(a, b, c); got != want {
				t.Fatalf("Sum cut at %d, %d = %08x, not %08x", i, j, got, want)
			}
			if got := bits.More(bits.More(bits.Sum(a), b), c); got != want {
				t.Fatalf("More cut at %d, %d = %08x, not %08x", i, j, got, want)
			}
		}
	}
}

// P1.6: texts that are unlike within 32 bits next to one another have unlike sums.
func TestSumTellsBursts(t *testing.T) {
	whole := bytesOf(11, 16)
	want := bits.Sum(whole)
	for from := range len(whole) * 8 {
		for i, burst := range []uint32{1, 3, 0x80000001, 0xffffffff, 0x82F63B78, 0x05EC76F1, 0xC1ED6E0F} {
			b := slices.Clone(whole)
			for k := range 32 {
				if at := from + k; at < len(b)*8 && burst>>k&1 == 1 {
					b[at/8] ^= 1 << (at % 8)
				}
			}
			if !slices.Equal(b, whole) && bits.Sum(b) == want {
				t.Errorf("burst %d at bit %d is not told", i, from)
			}
		}
	}
}
