package bits_test

import (
	"iter"
	"math"
	"slices"
	"testing"

	"vellum/bits"
)

// P1.5: the rows of the examples, the greatest ints, ranges that are none.
func TestLinesAndWords(t *testing.T) {
	for _, x := range []struct {
		at, n        int
		lines, words []int
	}{
		{60, 8, []int{0, 1}, []int{7, 8}},
		{64, 64, []int{1}, []int{8, 9, 10, 11, 12, 13, 14, 15}},
		{7, 2, []int{0}, []int{0, 1}},
		{8, 8, []int{0}, []int{1}},
		{0, 1, []int{0}, []int{0}},
		{63, 1, []int{0}, []int{7}},
		{63, 2, []int{0, 1}, []int{7, 8}},
		{127, 66, []int{1, 2, 3}, []int{15, 16, 17, 18, 19, 20, 21, 22, 23, 24}},
		{math.MaxInt - 1, 1, []int{1<<57 - 1}, []int{1<<60 - 1}},
		{math.MaxInt - 64, 64, []int{1<<57 - 2, 1<<57 - 1}, []int{1<<60 - 9, 1<<60 - 8, 1<<60 - 7, 1<<60 - 6, 1<<60 - 5, 1<<60 - 4, 1<<60 - 3, 1<<60 - 2, 1<<60 - 1}},
	} {
		checkTold(t, "Lines", x.at, x.n, bits.Lines(x.at, x.n), x.lines)
		checkTold(t, "Words", x.at, x.n, bits.Words(x.at, x.n), x.words)
	}
	for _, x := range [][2]int{
		{0, 0}, {5, 0}, {5, -1}, {5, math.MinInt}, {0, math.MinInt}, {math.MaxInt, math.MinInt},
		{-1, 5}, {-1, 0}, {-64, 64}, {-1, math.MaxInt}, {math.MinInt, 1}, {math.MinInt, math.MaxInt}, {math.MinInt, math.MinInt},
		{math.MaxInt, 1}, {math.MaxInt, math.MaxInt}, {math.MaxInt, 0}, {1, math.MaxInt}, {math.MaxInt - 64, 65},
	} {
		checkTold(t, "Lines", x[0], x[1], bits.Lines(x[0], x[1]), nil)
		checkTold(t, "Words", x[0], x[1], bits.Words(x[0], x[1]), nil)
	}
}

// P1.5: the numbers of all addresses, one by one. P1.6: lines are the words over 8.
func TestLinesAndWordsOfAllAddresses(t *testing.T) {
	for at := range 140 {
		for n := range 140 {
			lines, words := over(at, n, 64), over(at, n, 8)
			checkTold(t, "Lines", at, n, bits.Lines(at, n), lines)
			checkTold(t, "Words", at, n, bits.Words(at, n), words)
			var linesOfWords []int
			for word := range bits.Words(at, n) {
				linesOfWords = append(linesOfWords, word/8)
			}
			checkTold(t, "Lines", at, n, bits.Lines(at, n), slices.Compact(linesOfWords))
		}
	}
}

// over is the addresses of a range over size, each once.
func over(at, n, size int) []int {
	var told []int
	for address := at; address < at+n; address++ {
		told = append(told, address/size)
	}
	return slices.Compact(told)
}

func checkTold(t *testing.T, name string, at, n int, seq iter.Seq[int], want []int) {
	t.Helper()
	for range 2 { // gone through again it tells the same
		if got := slices.Collect(seq); !slices.Equal(got, want) {
			t.Errorf("%s(%d, %d) = %v, not %v", name, at, n, got, want)
		}
	}
}

// R1 and R7 of P1.5: a walk may be left at each place, also out of the greatest range, and begun again; one may stand within another.
func TestWalksMayBeLeft(t *testing.T) {
	for _, seq := range []iter.Seq[int]{bits.Lines(0, math.MaxInt), bits.Words(0, math.MaxInt)} {
		for leave := 1; leave < 20; leave++ {
			next := 0
			for number := range seq {
				if number != next {
					t.Fatalf("told %d, not %d", number, next)
				}
				if next++; next == leave {
					break
				}
			}
			if next != leave {
				t.Fatalf("left behind %d, not %d", next, leave)
			}
		}
	}
	words, pairs := bits.Words(0, 128), 0
	for range words {
		for range words {
			pairs++
		}
	}
	if pairs != 16*16 {
		t.Errorf("one walk within another: %d pairs", pairs)
	}
}
