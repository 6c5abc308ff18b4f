package marks_test

import (
	"encoding/binary"
	"math"
	"math/big"
	"math/rand/v2"
	"slices"
	"strconv"
	"strings"
	"testing"

	"vellum/api"
)

// top is the greatest int, last the greatest Id.
const (
	top  = math.MaxInt
	last = math.MaxUint32
)

// read is marks that are written as the chapter writes them: Id:At, and g behind those that Go.
func read(t *testing.T, s string) []api.Mark {
	t.Helper()
	var l []api.Mark
	for _, word := range strings.Fields(s) {
		word, isGoing := strings.CutSuffix(word, "g")
		id, at, _ := strings.Cut(word, ":")
		n, e1 := strconv.ParseUint(id, 10, 32)
		k, e2 := strconv.Atoi(at)
		if e1 != nil || e2 != nil {
			t.Fatalf("no marks: %q", s)
		}
		m := api.Mark{Id: uint32(n), At: k}
		if isGoing {
			m.Gravity = 1
		}
		l = append(l, m)
	}
	return l
}

// many is n marks with the Ids from 0 on, at twice their Id, every third one of those that Go.
func many(n int) []api.Mark {
	var l []api.Mark
	for i := range n {
		m := api.Mark{Id: uint32(i), At: 2 * i}
		if i%3 == 1 {
			m.Gravity = 1
		}
		l = append(l, m)
	}
	return l
}

// with is marks and others behind them, in memory of their own.
func with(l []api.Mark, others ...api.Mark) []api.Mark { return slices.Concat(l, others) }

// mixed is the marks in another order.
func mixed(l []api.Mark, r *rand.Rand) []api.Mark {
	l = slices.Clone(l)
	r.Shuffle(len(l), func(i, k int) { l[i], l[k] = l[k], l[i] })
	return l
}

// odd is numbers at the ends of ints and beside them.
func odd() []int {
	return []int{math.MinInt, math.MinInt + 1, -1 << 32, -2, -1, 0, 1, 2, 3, 1<<32 - 1, 1 << 32, top/2 - 1, top / 2, top/2 + 1, top/2 + 2, top - 3, top - 2, top - 1, top}
}

// wrongLists is lists of marks that may not be, each with what is answered of it.
func wrongLists() map[string]struct {
	l    []api.Mark
	code api.Errno
} {
	type list = struct {
		l    []api.Mark
		code api.Errno
	}
	out := map[string]list{
		"33":                        {many(33), api.ErrMarks},
		"33 of which one is below":  {with(many(32), api.Mark{Id: 99, At: -1}), api.ErrMarks},
		"33, the first below":       {with([]api.Mark{{Id: 99, At: -1}}, many(32)...), api.ErrMarks},
		"33 of which two are one":   {with(many(32), api.Mark{Id: 31}), api.ErrMarks},
		"33 of which one is heavy":  {with(many(32), api.Mark{Id: 99, Gravity: 2}), api.ErrMarks},
		"33 of one Id":              {make([]api.Mark, 33), api.ErrMarks},
		"very many":                 {many(5000), api.ErrMarks},
		"32 of which two are one":   {with(many(31), api.Mark{Id: 30, At: 7}), api.ErrMark},
		"32, the first and last":    {with(many(31), api.Mark{Id: 0, At: 7, Gravity: 1}), api.ErrMark},
		"32 of one Id":              {make([]api.Mark, 32), api.ErrMark},
		"two that are one":          {make([]api.Mark, 2), api.ErrMark},
		"two with the greatest Id":  {[]api.Mark{{Id: last, At: 1}, {Id: 3}, {Id: last, At: 2, Gravity: 1}}, api.ErrMark},
		"32 of which one is below":  {with(many(31), api.Mark{Id: 99, At: -1}), api.ErrMark},
		"32 of which one is heavy":  {with([]api.Mark{{Id: 99, Gravity: 2}}, many(31)...), api.ErrMark},
		"one below all":             {[]api.Mark{{Id: 1, At: math.MinInt}}, api.ErrMark},
		"one that Goes, below":      {[]api.Mark{{Id: 1, At: -1, Gravity: 1}}, api.ErrMark},
		"one in the midst is below": {[]api.Mark{{Id: 1}, {Id: 2, At: -1}, {Id: 3}}, api.ErrMark},
	}
	for g := 2; g < 256; g++ {
		out["gravity "+strconv.Itoa(g)] = list{[]api.Mark{{Id: 1, At: 5}, {Id: 2, At: 5, Gravity: uint8(g)}}, api.ErrMark}
	}
	return out
}

// byId is marks that may be, by rising Id: by looking for each Id in turn.
func byId(l []api.Mark) []api.Mark {
	at := map[uint32]api.Mark{}
	var ids []uint32
	for _, m := range l {
		at[m.Id] = m
		ids = append(ids, m.Id)
	}
	slices.Sort(ids)
	var out []api.Mark
	for _, id := range ids {
		out = append(out, at[id])
	}
	return out
}

// bytesOf is the bytes of marks, in the order in which they stand.
func bytesOf(l ...api.Mark) string {
	var b []byte
	for _, m := range l {
		b = binary.LittleEndian.AppendUint32(b, m.Id)
		b = binary.LittleEndian.AppendUint64(b, uint64(m.At))
		b = append(b, m.Gravity, 0, 0, 0)
	}
	return string(b)
}

// typed is where marks go by an edit of a text so long, done as one does it by hand: the text is a row of letters, with the marks standing between them. It is for small places alone.
func typed(l []api.Mark, length int, e api.Edit) []api.Mark {
	const letter = -1 // else an item is the index of a mark
	var ahead, around, behind []int
	standing := func(place int) []int {
		var out []int
		for i, m := range l {
			if m.At == place {
				out = append(out, i)
			}
		}
		return out
	}
	for place := 0; place <= length; place++ {
		row := standing(place)
		switch {
		case place < e.At:
			ahead = append(append(ahead, row...), letter)
		case place <= e.At+e.Out:
			around = append(around, row...) // the letters between them are taken out
			if place == e.At+e.Out && place < length {
				behind = append(behind, letter)
			}
		default:
			behind = append(behind, row...)
			if place < length {
				behind = append(behind, letter)
			}
		}
	}
	// What is put in parts the marks that stood around what was taken out.
	text := ahead
	for _, i := range around {
		if l[i].Gravity == 0 {
			text = append(text, i)
		}
	}
	for range e.In {
		text = append(text, letter)
	}
	for _, i := range around {
		if l[i].Gravity == 1 {
			text = append(text, i)
		}
	}
	out, place := slices.Clone(l), 0
	for _, i := range append(text, behind...) {
		if i == letter {
			place++
		} else {
			out[i].At = place
		}
	}
	return byId(out)
}

// counted is where marks go by an edit, and the error, in numbers that have no end.
func counted(l []api.Mark, e api.Edit) ([]api.Mark, api.Errno) {
	at, out, in, end := big.NewInt(int64(e.At)), big.NewInt(int64(e.Out)), big.NewInt(int64(e.In)), big.NewInt(top)
	sum := func(a, b *big.Int) *big.Int { return new(big.Int).Add(a, b) }
	if at.Sign() < 0 || out.Sign() < 0 || in.Sign() < 0 || sum(at, out).Cmp(end) > 0 || sum(at, in).Cmp(end) > 0 {
		return nil, api.ErrArg
	}
	l = byId(l)
	for i, m := range l {
		place := big.NewInt(int64(m.At))
		switch {
		case place.Cmp(at) < 0:
		case place.Cmp(sum(at, out)) > 0:
			place = sum(place, new(big.Int).Sub(in, out))
		case m.Gravity == 0:
			place = at
		default:
			place = sum(at, in)
		}
		if place.Cmp(end) > 0 {
			return nil, api.ErrArg
		}
		l[i].At = int(place.Int64())
	}
	return l, api.OK
}

// spoilt is a mark that no test has.
var spoilt = api.Mark{Id: 0xDEADBEEF, At: -77, Gravity: 77}

// does does a call on marks, and holds what it answers against what it must; what was handed in, and the room behind it, is neither changed nor in the answer, nor kept for the next call.
func does(t *testing.T, l, want []api.Mark, code api.Errno, call func(l []api.Mark) ([]api.Mark, api.Errno), name ...any) {
	t.Helper()
	for _, room := range []int{0, 3} {
		all := slices.Concat(l, slices.Repeat([]api.Mark{spoilt}, room))
		was := slices.Clone(all)
		in := all[: len(l) : len(l)+room]
		got, e := call(in)
		if e != code || !slices.Equal(got, want) {
			t.Fatalf("%v of %v: %v, %d; not %v, %d", name, l, got, e, want, code)
		}
		for i := range got[:cap(got)] {
			got[:cap(got)][i] = spoilt
		}
		if !slices.Equal(all, was) {
			t.Fatalf("%v of %v: what was handed in is changed, or in the answer", name, l)
		}
		got, e = call(in)
		if e != code || !slices.Equal(got, want) {
			t.Fatalf("%v of %v, again: %v, %d", name, l, got, e)
		}
		for i := range all {
			all[i] = spoilt
		}
		if !slices.Equal(got, want) {
			t.Fatalf("%v of %v: the answer is in what was handed in", name, l)
		}
	}
}
