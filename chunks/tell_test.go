package chunks_test

import (
	"fmt"
	"math"
	"math/rand/v2"
	"slices"
	"strings"
	"testing"

	"vellum/api"
	"vellum/blocks"
	"vellum/chunks"
	"vellum/table"
	"vellum/tally"
	"vellum/utf"
)

// P17.1 to P17.5, P17.8: the rows of the examples that change a text.
func TestExamplesOfChanges(t *testing.T) {
	w := work(t, 20)
	is := func(ref uint32, e api.Errno, want uint32, sizes, numbers []int) {
		t.Helper()
		l, f := chunks.Sizes(w, ref)
		b, g := chunks.Blocks(w, ref)
		if ref != want || e != api.OK || f != api.OK || g != api.OK || !slices.Equal(l, sizes) || !slices.Equal(b, numbers) {
			t.Fatalf("reference %d, %d, %v, %v; not %d, %v, %v", ref, e, l, b, want, sizes, numbers)
		}
		rising := slices.Sorted(slices.Values(numbers))
		if !slices.Equal(w.Taken(), rising) {
			t.Fatalf("taken %v, not %v", w.Taken(), rising)
		}
	}
	inserts := func(ref uint32, at, n int, sizes, numbers []int) {
		t.Helper()
		next, e := chunks.Insert(w, ref, at, strings.Repeat("x", n))
		is(next, e, 2, sizes, numbers)
	}
	inserts(0, 0, 100, []int{100}, []int{0, 1})
	inserts(2, 50, 152, []int{252}, []int{0, 1})
	inserts(2, 252, 1, []int{127, 126}, []int{0, 2, 1})
	inserts(2, 0, 600, []int{243, 242, 242, 126}, []int{0, 3, 4, 2, 1})
	next, e := chunks.Delete(w, 2, 100, 700)
	is(next, e, 2, []int{127, 126}, []int{0, 2, 1})
	next, e = chunks.Delete(w, 2, 0, 253)
	is(next, e, 0, nil, nil)
}

// P17.1 to P17.5: the other rows of the examples.
func TestExamplesOfWhatIsTold(t *testing.T) {
	s := scene{text: strings.Repeat("a", 126) + "\xe2\x82\xac" + strings.Repeat("b", 124), sizes: []int{127, 126}}
	_, _, w, ref := s.lay(t)
	want := api.Tally{Bytes: 253, Chars: 251, Head: "aaa", Tail: "bbb"}
	if sum, e := chunks.Tally(w, ref); sum != want || e != api.OK {
		t.Errorf("Tally = %v, %d", sum, e)
	}
	for i, c := range []struct {
		call     func(w *blocks.Work, ref uint32, n int) (int, api.Errno)
		n, place int
	}{{chunks.At, 126, 126}, {chunks.At, 127, 129}, {chunks.Of, 128, 126}, {chunks.Line, 0, 0}} {
		if got, e := c.call(w, ref, c.n); got != c.place || e != api.OK {
			t.Errorf("call %d = %d, %d", i, got, e)
		}
	}
	w = work(t, 20)
	ref, e := chunks.Insert(w, 0, 0, "ab")
	well(t, e)
	for i, e := range []api.Errno{second(chunks.Read(w, ref, 3, 2)), second(chunks.Insert(w, ref, -1, "")), second(chunks.At(w, ref, 3)), second(chunks.Line(w, ref, 1))} {
		if e != api.ErrRange {
			t.Errorf("call %d: %d", i, e)
		}
	}
}

// P17.1 to P17.3: the empty text.
func TestEmptyText(t *testing.T) {
	for _, w := range []*blocks.Work{work(t, 0), work(t, 3, 0, 1)} {
		s := stateOf(t, w)
		if !tells(t, "empty", w, 0) {
			t.Error("no text")
		}
		for _, at := range odd() {
			tellsText(t, "empty", w, 0, "", []int{at, 0})
		}
		for _, e := range []api.Errno{second(chunks.Insert(w, 0, 0, "")), second(chunks.Delete(w, 0, 0, 0)), chunks.Drop(w, 0)} {
			if e != api.OK {
				t.Errorf("nothing done = %d", e)
			}
		}
		s.is(t, "empty", w)
	}
}

// P17.1 to P17.3: texts of one to four chunks of all sizes that are edges.
func TestEachSizes(t *testing.T) {
	for _, s := range scenes(4, []int{1, 2, 126, 127, 251, 252}, 0) {
		_, _, w, ref := s.lay(t)
		name := fmt.Sprint("sizes ", s.sizes)
		if !tells(t, name, w, ref) {
			t.Fatalf("%s: no text", name)
		}
		if got, _ := chunks.Sizes(w, ref); !slices.Equal(got, s.sizes) {
			t.Fatalf("%s: Sizes = %v", name, got)
		}
	}
}

// P17.1 to P17.3, P17.5: places at the ends of ints, and all others that the texts do not have.
func TestWrongPlaces(t *testing.T) {
	for _, s := range []scene{{}, {text: prose(1, 0), sizes: []int{1}}, {text: prose(400, 1), sizes: []int{150, 250}}} {
		d, _, w, ref := s.lay(t)
		n := len(s.text)
		was := d.Copy()
		before := stateOf(t, w)
		wrong := append(odd(), -1, n+1, n+2, n+251, n+252)
		tellsText(t, "wrong places", w, ref, s.text, wrong)
		for _, at := range wrong {
			for _, x := range []string{"", "x", rising(505)} {
				if next, e := chunks.Insert(w, ref, at, x); next != 0 || e != api.ErrRange {
					t.Errorf("Insert(%d) of %d bytes = %d, %d", at, len(x), next, e)
				}
			}
			for _, to := range append(wrong, 0, n/2, n) {
				for _, c := range [][2]int{{at, to}, {to, at}} {
					readsLikeIt(t, "wrong places", w, ref, s.text, c[0], c[1])
					if next, e := chunks.Delete(w, ref, c[0], c[1]); next != 0 || e != api.ErrRange {
						t.Errorf("Delete(%d, %d) = %d, %d", c[0], c[1], next, e)
					}
				}
			}
		}
		for from := range n {
			if next, e := chunks.Delete(w, ref, from+1, from); next != 0 || e != api.ErrRange {
				t.Errorf("Delete(%d, %d) = %d, %d", from+1, from, next, e)
			}
		}
		before.is(t, "wrong places", w)
		untouched(t, "wrong places", d, was)
	}
}

// P17.2, P17.3: each place, and each two of some, of texts of up to some thousands of bytes, in chunks of many sizes.
func TestEachPlace(t *testing.T) {
	for i, sizes := range [][]int{{1}, {252}, {252, 1}, {127, 126, 127, 126}, {252, 1, 252, 2, 251, 3, 250}, {200, 252, 100, 153, 100, 252, 252, 9, 244, 252, 252, 252, 1, 252, 1, 252, 252, 17, 236, 252}} {
		s := scene{text: prose(sum(sizes), i), sizes: sizes}
		_, _, w, ref := s.lay(t)
		name := fmt.Sprint("sizes ", sizes)
		begin := begins(s.text)
		for at := range len(s.text) + 2 {
			tellsAt(t, name, w, ref, s.text, at)
			tellsOf(t, name, w, ref, s.text, at)
			tellsLine(t, name, w, ref, begin, at)
		}
		places := s.edges()
		for _, from := range places {
			for _, to := range places {
				readsLikeIt(t, name, w, ref, s.text, from, to)
			}
		}
	}
}

// relay writes other texts into chunks that lie in a work already, in the blocks that a text has.
func relay(t *testing.T, w *blocks.Work, ref uint32, texts ...string) {
	t.Helper()
	l, e := table.Cells(w, ref, 16)
	well(t, e)
	for i, s := range texts {
		r := row{int(l[i][0]) - 1, s, (i + 1) * 7 % (len(s) + 1)}
		well(t, w.Write(r.block, r.data()), table.Put(w, ref, 16, i, r.cell()))
	}
}

// rows is all rows of n of some bytes.
func rows(alphabet string, n int) []string {
	l := []string{""}
	for range n {
		var next []string
		for _, s := range l {
			for i := range len(alphabet) {
				next = append(next, s+alphabet[i:i+1])
			}
		}
		l = next
	}
	return l
}

// P17.1, P17.3, P17.8: whatever lies over a seam of two chunks: of seven small alphabets each row of six bytes, three ahead of the seam and three behind it: characters of each width, wrong bytes, line ends, and what is nearly one.
func TestOverASeam(t *testing.T) {
	for _, alphabet := range []string{"\xc3\xa9a", "\xe2\x80\xa8", "\xf0\x9f\x98\x80", "\r\na", "\xc2\x85\r\n", "\xed\xa0\x80", "\xf4\x8f\x90\xff", "\xe2\x82\xac\n"} {
		w := work(t, 8)
		ref, e := chunks.Insert(w, 0, 0, strings.Repeat("x", 300))
		well(t, e)
		for _, s := range rows(alphabet, 6) {
			first, last := strings.Repeat("x", 200)+s[:3], s[3:]+strings.Repeat("y", 60)
			relay(t, w, ref, first, last)
			tellsSeam(t, fmt.Sprintf("%x over a seam", s), w, ref, first+last, 200, 206)
		}
	}
}

// P17.1, P17.3, P17.8: whatever lies over the two seams of a chunk of one byte, or of two: of five small alphabets each row of six bytes.
func TestOverTwoSeams(t *testing.T) {
	for _, alphabet := range []string{"\xe2\x80\xa8", "\xf0\x9f\x80", "\xf0\x9f\x98\x80", "\r\na", "\xf1\x80\xe2a"} {
		w := work(t, 8)
		ref, e := chunks.Insert(w, 0, 0, strings.Repeat("x", 700))
		well(t, e)
		for i, s := range rows(alphabet, 6) {
			ahead := i % 3
			middle := ahead + 1 + i/3%2
			first, last := strings.Repeat("x", 252-ahead)+s[:ahead], s[middle:]+strings.Repeat("y", 252-6+middle)
			relay(t, w, ref, first, s[ahead:middle], last)
			tellsSeam(t, fmt.Sprintf("%x over two seams", s), w, ref, first+s[ahead:middle]+last, 252-ahead, 258-ahead)
		}
	}
}

// tellsSeam holds what is told of a text in which something stands between two places.
func tellsSeam(t *testing.T, name string, w *blocks.Work, ref uint32, s string, from, to int) {
	t.Helper()
	if got, e := chunks.Tally(w, ref); got != tally.Of(s) || e != api.OK {
		t.Fatalf("%s: Tally = %v, %d; not %v", name, got, e, tally.Of(s))
	}
	for at := from - 1; at <= to+1; at++ {
		tellsOf(t, name, w, ref, s, at)
		tellsAt(t, name, w, ref, s, at)
	}
	begin := begins(s)
	for n := range len(begin) + 1 {
		tellsLine(t, name, w, ref, begin, n)
	}
	n := utf.Count(s)
	tellsAt(t, name, w, ref, s, n)
	tellsAt(t, name, w, ref, s, n+1)
	tellsOf(t, name, w, ref, s, len(s))
}

// P17.3: what is pending, and what is a line end, at the end of the last chunk, and of the only one.
func TestAtTheEnd(t *testing.T) {
	for _, tail := range []string{"\r", "\n", "\r\n", "\xe2", "\xe2\x80", "\xe2\x80\xa8", "\xf0\x9f\x98", "\xf0\x9f\x98\x80", "\xc2\x85", "\xc3", "\xff", "\r\xe2\x80", "\r\r"} {
		for _, ahead := range []int{0, 1, 120, 252 - len(tail)} {
			alone := strings.Repeat("x", ahead) + tail
			for _, s := range []scene{{text: alone, sizes: []int{len(alone)}}, {text: strings.Repeat("y", 252) + alone, sizes: []int{252, len(alone)}}, {text: strings.Repeat("y", 252-len(alone)+1) + alone, sizes: []int{252, 1}}} {
				_, _, w, ref := s.lay(t)
				if !tells(t, fmt.Sprintf("%x at the end", tail), w, ref) {
					t.Fatal("no text")
				}
			}
		}
	}
}

// P17.8: one text, cut in many ways: but Sizes and Blocks all is the same.
func TestHoweverItIsCut(t *testing.T) {
	r := rand.New(rand.NewPCG(17, 1))
	for kind := range 6 {
		text := prose(2000, kind)
		for range 40 {
			s := scene{text: text}
			for left := len(text); left > 0; left -= s.sizes[len(s.sizes)-1] {
				least := 1
				if k := len(s.sizes); k > 0 {
					least = 253 - s.sizes[k-1]
				}
				if left < least {
					// What is left has no place in a chunk of its own.
					s = scene{text: text}
					left = len(text)
					least = 1
				}
				s.sizes = append(s.sizes, least+r.IntN(min(252, left)-least+1))
			}
			_, _, w, ref := s.lay(t)
			tellsText(t, fmt.Sprint("sizes ", s.sizes), w, ref, text, s.edges())
		}
	}
}

// P17.1: texts whose table has many blocks, with as many cells as they may have: Blocks tells the chunks' ahead of the table's.
func TestManyTableBlocks(t *testing.T) {
	for i, counts := range [][]int{{14}, {15}, {15, 1}, {1, 15}, {8, 8}, {15, 15, 15}, {1, 15, 1, 15}, {9, 7, 12, 15, 2, 14, 15}} {
		s := scene{table: counts}
		for k := range sum(counts) {
			s.sizes = append(s.sizes, []int{252, 1, 252, 130, 123}[k%5])
		}
		s.text = prose(sum(s.sizes), i)
		_, _, w, ref := s.lay(t)
		if !tells(t, fmt.Sprint("table blocks with ", counts), w, ref) {
			t.Errorf("%v: no text", counts)
		}
		l, e := chunks.Blocks(w, ref)
		if len(l) != len(s.sizes)+len(counts) || int(ref)-1 != l[len(s.sizes)] || e != api.OK {
			t.Errorf("%v: Blocks = %v, %d", counts, l, e)
		}
	}
}

// P17.1 to P17.5: a text of just MaxText bytes; one byte more is not put in, and what has one more is no text.
func TestMaxText(t *testing.T) {
	const most = 1 << 20
	w := work(t, 5000)
	text := strings.Repeat(prose(4096, 2), most/4096)
	ref, e := chunks.Insert(w, 0, 0, text[:most-1])
	well(t, e)
	ref, e = chunks.Insert(w, ref, most-1, text[most-1:])
	well(t, e)
	plan, _, is := read(t, w, ref)
	if !is || whole(plan) != text {
		t.Fatal("another text")
	}
	tellsText(t, "MaxText", w, ref, text, []int{-1, 0, 1, 253, most / 2, most - 1, most, most + 1})
	s := stateOf(t, w)
	for _, at := range []int{0, 100, most} {
		for _, x := range []string{"x", rising(600), text} {
			if next, e := chunks.Insert(w, ref, at, x); next != 0 || e != api.ErrLong {
				t.Errorf("Insert of %d bytes = %d, %d", len(x), next, e)
			}
		}
		if next, e := chunks.Insert(w, ref, at, ""); next != ref || e != api.OK {
			t.Errorf("Insert of nothing = %d, %d", next, e)
		}
	}
	for _, at := range []int{-1, most + 1, math.MaxInt} {
		if next, e := chunks.Insert(w, ref, at, "x"); next != 0 || e != api.ErrRange {
			t.Errorf("Insert(%d) = %d, %d", at, next, e)
		}
	}
	s.is(t, "MaxText", w)
	// One byte more in a chunk that has room.
	k := slices.IndexFunc(plan, func(r row) bool { return len(r.text) < 252 })
	r := row{plan[k].block, plan[k].text + "x", 0}
	well(t, w.Write(r.block, r.data()), table.Put(w, ref, 16, k, r.cell()))
	if tells(t, "more than MaxText", w, ref) {
		t.Error("a text")
	}
	// Another one, and its end taken out and put in again.
	well(t, w.Write(r.block, plan[k].data()), table.Put(w, ref, 16, k, plan[k].cell()))
	ref, e = chunks.Delete(w, ref, most-600, most)
	well(t, e)
	if next, e := chunks.Insert(w, ref, 5, rising(601)); next != 0 || e != api.ErrLong {
		t.Errorf("Insert of 601 bytes = %d, %d", next, e)
	}
	ref, e = chunks.Insert(w, ref, 5, rising(600))
	well(t, e)
	plan, _, _ = read(t, w, ref)
	if got, e := chunks.Read(w, ref, 0, most); got != text[:5]+rising(600)+text[5:most-600] || e != api.OK || whole(plan) != got {
		t.Errorf("Read = %d bytes, %d", len(got), e)
	}
	ref, e = chunks.Delete(w, ref, 0, most)
	if ref != 0 || e != api.OK || len(w.Taken()) != 0 {
		t.Errorf("Delete of all = %d, %d, taken %d blocks", ref, e, len(w.Taken()))
	}
}

// P17.4: too long a text, where no block is free, and where there is none: ErrLong goes ahead of ErrSpace, and ErrRange of both.
func TestLongAheadOfSpace(t *testing.T) {
	long := strings.Repeat("x", 1<<20+1)
	for _, w := range []*blocks.Work{work(t, 0), work(t, 2, 0, 1), work(t, 3)} {
		s := stateOf(t, w)
		if next, e := chunks.Insert(w, 0, 0, long); next != 0 || e != api.ErrLong {
			t.Errorf("Insert = %d, %d", next, e)
		}
		if next, e := chunks.Insert(w, 0, 1, long); next != 0 || e != api.ErrRange {
			t.Errorf("Insert = %d, %d", next, e)
		}
		s.is(t, "too long", w)
	}
	w := work(t, 2, 0, 1)
	if next, e := chunks.Insert(w, 0, 0, long[1:]); next != 0 || e != api.ErrSpace {
		t.Errorf("Insert = %d, %d", next, e)
	}
}
