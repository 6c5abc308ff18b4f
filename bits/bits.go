// Package bits is layer 1: numbers as bytes, a sum, lines and words of addresses; see shared/doc/01-bits.md.
package bits

import (
	"iter"
	"math"

	"vellum/api"
)

// turn is the polynomial of CRC-32C, its highest power in the lowest bit.
const turn uint32 = 0x82F63B78

const wordsOfLine = api.LineSize / api.WordSize

// Put is the bytes of b, and behind them those of v, the lowest first.
func Put[T api.Whole](b []byte, v T) []byte {
	// Not append: it might write into the room behind b, which is the caller's.
	out := make([]byte, len(b)+width[T]())
	rest := uint64(v)
	for i := copy(out, b); i < len(out); i++ {
		out[i] = byte(rest)
		rest >>= 8
	}
	return out
}

// Take is the number whose bytes stand at a place of b.
func Take[T api.Whole](b []byte, at int) (T, api.Errno) {
	n := width[T]()
	if at < 0 || at > len(b)-n {
		return 0, api.ErrRange
	}
	var v uint64
	for i := at + n - 1; i >= at; i-- {
		v <<= 8
		v |= uint64(b[i])
	}
	return T(v), api.OK
}

// width is how many bytes a T has. It is counted, as only unsafe could be asked for it; in 64 bits, as a shift by 8 is too far for the narrowest T.
func width[T api.Whole]() int {
	n := 0
	for rest := uint64(^T(0)); rest != 0; rest >>= 8 {
		n++
	}
	return n
}

// Sum is the CRC-32C of all parts, one behind the other.
func Sum(parts ...[]byte) uint32 {
	var sum uint32 // that of no bytes
	for _, part := range parts {
		sum = More(sum, part)
	}
	return sum
}

// More is the sum of bytes whose sum is sum, and b behind them.
func More(sum uint32, b []byte) uint32 {
	register := ^sum
	for _, x := range b {
		// All bits of the byte are held against the register at once: each one meets the lowest bit just when it has been shifted there.
		register ^= uint32(x)
		for range 8 {
			unlike := register & 1
			register >>= 1
			register ^= turn & -unlike // -1 is all ones; so no branch, which would be guessed wrong half the time
		}
	}
	return ^register
}

// Round is the least multiple of to that is not below n.
func Round(n, to int) (int, api.Errno) {
	if n < 0 || to < 1 {
		return 0, api.ErrArg
	}
	over := n % to
	if over == 0 {
		return n, api.OK
	}
	lack := to - over
	if n > math.MaxInt-lack {
		return 0, api.ErrArg
	}
	return n + lack, api.OK
}

// Lines tells the numbers of the lines that a range of addresses touches, rising.
func Lines(at, n int) iter.Seq[int] {
	return func(yield func(int) bool) {
		if at < 0 || n < 1 || n > math.MaxInt-at {
			return
		}
		last := (at + n - 1) / api.LineSize
		for line := at / api.LineSize; line <= last; line++ {
			if !yield(line) {
				return
			}
		}
	}
}

// Words tells the numbers of the words that a range of addresses touches, rising: line by line, so that Lines alone says which ranges there are.
func Words(at, n int) iter.Seq[int] {
	return func(yield func(int) bool) {
		for line := range Lines(at, n) {
			first := max(at/api.WordSize, line*wordsOfLine)
			last := min((at+n-1)/api.WordSize, line*wordsOfLine+wordsOfLine-1)
			for word := first; word <= last; word++ {
				if !yield(word) {
					return
				}
			}
		}
	}
}
