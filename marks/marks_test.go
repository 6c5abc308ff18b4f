package marks_test

import (
	"fmt"
	"math"
	"math/rand/v2"
	"slices"
	"testing"

	"vellum/api"
	"vellum/marks"
)

// set, unset: calls that does hands marks to.
func set(m api.Mark) func(l []api.Mark) ([]api.Mark, api.Errno) {
	return func(l []api.Mark) ([]api.Mark, api.Errno) { return marks.Set(l, m) }
}

func unset(id uint32) func(l []api.Mark) ([]api.Mark, api.Errno) {
	return func(l []api.Mark) ([]api.Mark, api.Errno) { return marks.Unset(l, id) }
}

// inOrder is Order, as does calls it.
func inOrder(l []api.Mark) ([]api.Mark, api.Errno) { return marks.Order(l), api.OK }

// check holds Check: what is handed in stays, too.
func check(t *testing.T, l []api.Mark, bytes int, code api.Errno, name ...any) {
	t.Helper()
	was := slices.Clone(l)
	if e := marks.Check(l, bytes); e != code {
		t.Errorf("%v: Check of %d marks in %d = %d, not %d", name, len(l), bytes, e, code)
	}
	if !slices.Equal(l, was) {
		t.Errorf("%v: Check changed the marks", name)
	}
}

// P19.1, P19.2, P19.4: the rows of the examples.
func TestExamples(t *testing.T) {
	for _, x := range []struct {
		l, m, want string
		code       api.Errno
	}{
		{"1:5 3:2g", "2:9", "1:5 2:9 3:2g", api.OK},
		{"1:5", "1:7g", "1:7g", api.OK},
		{"", "1:-1", "", api.ErrMark},
	} {
		does(t, read(t, x.l), read(t, x.want), x.code, set(read(t, x.m)[0]), "Set", x.m)
	}
	does(t, read(t, "1:5 2:9"), read(t, "2:9"), api.OK, unset(1), "Unset 1")
	does(t, read(t, "1:5"), nil, api.ErrMark, unset(2), "Unset 2")
	does(t, read(t, "1:9 2:3 5:3 4:3"), read(t, "2:3 4:3 5:3 1:9"), api.OK, inOrder, "Order")
	check(t, read(t, "1:5"), 5, api.OK)
	check(t, read(t, "1:5"), 4, api.ErrMark)
	check(t, nil, -1, api.OK)
}

// P19.1: marks lie in a text, if none is behind its end.
func TestCheck(t *testing.T) {
	for _, bytes := range odd() {
		check(t, nil, bytes, api.OK, "no marks")
		check(t, []api.Mark{}, bytes, api.OK, "an empty list")
		for _, at := range odd() {
			for _, gravity := range []uint8{0, 1, 2, 255} {
				m := api.Mark{Id: 3, At: at, Gravity: gravity}
				code := api.ErrMark
				if at >= 0 && at <= bytes && gravity < 2 {
					code = api.OK
				}
				check(t, []api.Mark{m}, bytes, code, m)
				// The others lie in each text that has one.
				if bytes >= 0 {
					check(t, []api.Mark{{Id: 0}, m, {Id: last, Gravity: 1}}, bytes, code, m, "among others")
				}
			}
		}
	}
	r := rand.New(rand.NewPCG(19, 1))
	for n := range 33 {
		l := many(n)
		check(t, mixed(l, r), 2*n-2, api.OK, n)
		if n > 0 {
			check(t, mixed(l, r), 2*n-3, api.ErrMark, n)
			check(t, mixed(l, r), -1, api.ErrMark, n)
		}
	}
	// Marks at one place, of all Ids.
	check(t, []api.Mark{{Id: last, At: 4}, {Id: 0, At: 4, Gravity: 1}, {Id: 1 << 31, At: 4}, {Id: 1<<31 - 1, At: 4}}, 4, api.OK)
	for name, x := range wrongLists() {
		for _, bytes := range odd() {
			check(t, x.l, bytes, x.code, name)
		}
	}
	for n := 33; n < 300; n++ {
		check(t, many(n), 2*n, api.ErrMarks, n)
	}
}

// P19.1, P19.2: of two marks with one Id wherever they stand among 32.
func TestTwice(t *testing.T) {
	for i := range 32 {
		for k := range i {
			l := many(32)
			l[i].Id = l[k].Id
			name := fmt.Sprint("the Id of ", k, " at ", i)
			check(t, l, 99, api.ErrMark, name)
			does(t, l, nil, api.ErrMark, set(api.Mark{Id: 5}), "Set", name)
			does(t, l, nil, api.ErrMark, unset(l[k].Id), "Unset", name)
		}
	}
}

// P19.2: Set and Unset against marks by their Ids, with 0 to 32 of them.
func TestSetUnset(t *testing.T) {
	r := rand.New(rand.NewPCG(19, 2))
	for n := range 33 {
		l := many(n)
		for i := range l { // Ids at both ends, and between
			l[i].Id = []uint32{uint32(i), last - uint32(i), uint32(i) << 26, uint32(i)<<8 | 7}[n%4]
		}
		l = mixed(l, r)
		for i, m := range l {
			others := slices.Delete(slices.Clone(l), i, i+1)
			does(t, l, byId(others), api.OK, unset(m.Id), "Unset", m.Id)
			other := api.Mark{Id: m.Id, At: top - i, Gravity: 1 - m.Gravity}
			does(t, l, byId(with(others, other)), api.OK, set(other), "Set", other)
			does(t, l, byId(l), api.OK, set(m), "Set to what it is", m)
		}
		for _, id := range []uint32{0, 3, 1<<31 + 5, last - 40, last} {
			if slices.ContainsFunc(l, func(m api.Mark) bool { return m.Id == id }) {
				continue
			}
			does(t, l, nil, api.ErrMark, unset(id), "Unset", id)
			m := api.Mark{Id: id, At: n, Gravity: uint8(n % 2)}
			if n == 32 {
				does(t, l, nil, api.ErrMarks, set(m), "Set of the 33rd", m)
			} else {
				does(t, l, byId(with(l, m)), api.OK, set(m), "Set", m)
			}
		}
	}
}

// P19.2: wrong marks, and which error comes first.
func TestSetWrong(t *testing.T) {
	for _, l := range [][]api.Mark{nil, many(1), many(31), many(32)} {
		for _, id := range []uint32{0, 7, 40, last} { // 40 and the last one are the 33rd of 32
			for _, m := range []api.Mark{{Id: id, At: -1}, {Id: id, At: math.MinInt}, {Id: id, Gravity: 2}, {Id: id, At: 3, Gravity: 255}, {Id: id, At: -1, Gravity: 2}} {
				does(t, l, nil, api.ErrMark, set(m), "Set", m)
			}
		}
	}
	for name, x := range wrongLists() {
		for _, m := range []api.Mark{{Id: 1, At: 5}, {Id: 77}, {Id: 77, At: -1}, {Id: 99, Gravity: 3}, {Id: last}} {
			does(t, x.l, nil, x.code, set(m), "Set", m, name)
			does(t, x.l, nil, x.code, unset(m.Id), "Unset", m.Id, name)
		}
	}
}

// P19.4: Order of any list against one mark after the other put behind all that it is not ahead of.
func TestOrder(t *testing.T) {
	stands := func(l []api.Mark) []api.Mark {
		var out []api.Mark
		for _, m := range l {
			i := len(out)
			for i > 0 && (out[i-1].At > m.At || out[i-1].At == m.At && out[i-1].Id > m.Id) {
				i--
			}
			out = slices.Insert(out, i, m)
		}
		return out
	}
	does(t, nil, nil, api.OK, inOrder, "Order of none")
	does(t, []api.Mark{}, nil, api.OK, inOrder, "Order of an empty list")
	r := rand.New(rand.NewPCG(19, 4))
	ids := []uint32{0, 1, 2, 1<<31 - 1, 1 << 31, last}
	for k := range 600 {
		var l []api.Mark
		for range r.IntN([]int{5, 40, 400}[k%3]) {
			// Gravities that are none tell apart those of one place and one Id.
			l = append(l, api.Mark{Id: ids[r.IntN(len(ids))], At: odd()[r.IntN(len(odd()))], Gravity: uint8(r.IntN(256))})
		}
		does(t, l, stands(l), api.OK, inOrder, "Order")
	}
	for name, x := range wrongLists() {
		does(t, x.l, stands(x.l), api.OK, inOrder, "Order", name)
	}
	// Two of one place and one Id, both ways; two with Ids far apart, so that no difference tells which is the lesser.
	for _, l := range [][]api.Mark{
		{{Id: 4, At: 3, Gravity: 1}, {Id: 4, At: 3}},
		{{Id: 4, At: 3}, {Id: 4, At: 3, Gravity: 1}},
		{{Id: last}, {Id: 0}, {Id: 1 << 31}},
		{{At: top}, {At: math.MinInt}, {At: -1}, {At: 0}, {At: 1}},
	} {
		does(t, l, stands(l), api.OK, inOrder, "Order")
	}
}

// P19.4: a list of any length.
func TestOrderLong(t *testing.T) {
	r := rand.New(rand.NewPCG(19, 5))
	l := make([]api.Mark, 200000)
	for i := range l {
		l[i] = api.Mark{Id: uint32(r.IntN(3)), At: r.IntN(50) - 5, Gravity: uint8(i)}
	}
	got := marks.Order(l)
	// Those that stand together came in their order: each of the rows is the one that is left of all marks.
	rows := map[api.Mark][]uint8{}
	for _, m := range l {
		key := api.Mark{Id: m.Id, At: m.At}
		rows[key] = append(rows[key], m.Gravity)
	}
	for i, m := range got {
		key := api.Mark{Id: m.Id, At: m.At}
		if rows[key][0] != m.Gravity {
			t.Fatalf("number %d, %v, stands out of its order", i, m)
		}
		rows[key] = rows[key][1:]
		if i > 0 && (got[i-1].At > m.At || got[i-1].At == m.At && got[i-1].Id > m.Id) {
			t.Fatalf("%v ahead of %v", got[i-1], m)
		}
	}
	if len(got) != len(l) {
		t.Fatalf("%d marks of %d", len(got), len(l))
	}
}
