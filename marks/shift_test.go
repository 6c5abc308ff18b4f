package marks_test

import (
	"math"
	"math/rand/v2"
	"slices"
	"testing"

	"vellum/api"
	"vellum/marks"
)

// shift is Shift, as does calls it.
func shift(e api.Edit) func(l []api.Mark) ([]api.Mark, api.Errno) {
	return func(l []api.Mark) ([]api.Mark, api.Errno) { return marks.Shift(l, e) }
}

// shifted is marks behind edits, all of which may be.
func shifted(t *testing.T, l []api.Mark, edits ...api.Edit) []api.Mark {
	t.Helper()
	for _, e := range edits {
		was := l
		var code api.Errno
		if l, code = marks.Shift(l, e); code != api.OK {
			t.Fatalf("Shift(%v, %v) = %d", was, e, code)
		}
	}
	return l
}

// around is a mark of each gravity at each place from 0 to n, with Ids that fall in the places' order.
func around(n int) []api.Mark {
	var l []api.Mark
	for at := range n + 1 {
		l = append(l, api.Mark{Id: uint32(99 - 2*at), At: at}, api.Mark{Id: uint32(98 - 2*at), At: at, Gravity: 1})
	}
	return l
}

// edits does something with each edit of a text of n bytes that puts in up to two.
func edits(n int, do func(e api.Edit)) {
	for at := range n + 1 {
		for out := range n - at + 1 {
			for in := range 3 {
				do(api.Edit{At: at, Out: out, In: in})
			}
		}
	}
}

// P19.3: the rows of the examples.
func TestShiftExamples(t *testing.T) {
	for _, x := range []struct {
		l    string
		e    api.Edit
		want string
	}{
		{"1:2 2:3 3:3g 4:4 5:9", api.Edit{At: 3, In: 2}, "1:2 2:3 3:5g 4:6 5:11"},
		{"1:3 2:4g 3:7g 4:7 5:8", api.Edit{At: 3, Out: 4, In: 1}, "1:3 2:4g 3:4g 4:3 5:5"},
		{"7:2g", api.Edit{At: 0, Out: 0, In: 3}, "7:5g"},
		// Those of the whole: ab, marks at 1, two bytes put in there, two taken out at 0.
		{"1:1 2:1g", api.Edit{At: 1, In: 2}, "1:1 2:3g"},
		{"1:1 2:3g", api.Edit{At: 0, Out: 2}, "1:0 2:1g"},
	} {
		does(t, read(t, x.l), read(t, x.want), api.OK, shift(x.e), "Shift", x.e)
	}
	for _, e := range []api.Edit{{In: 1}, {In: -1}} {
		does(t, read(t, "1:9223372036854775807"), nil, api.ErrArg, shift(e), "Shift", e)
	}
}

// P19.3, P19.6: each edit of a small text, with marks at all places, against the edit done by hand.
func TestShiftTyped(t *testing.T) {
	for n := range 7 {
		l := around(n)
		edits(n, func(e api.Edit) {
			does(t, l, typed(l, n, e), api.OK, shift(e), "Shift", e, n)
			for _, m := range l {
				does(t, []api.Mark{m}, typed([]api.Mark{m}, n, e), api.OK, shift(e), "Shift", e, n)
			}
		})
	}
	does(t, nil, nil, api.OK, shift(api.Edit{At: 3, Out: 1, In: 2}), "Shift of none")
	full := mixed(many(32), rand.New(rand.NewPCG(19, 6)))
	for at := range 63 {
		for _, e := range []api.Edit{{At: at}, {At: at, In: 5}, {At: at, Out: 62 - at}, {At: at, Out: min(4, 62-at), In: 3}} {
			does(t, full, typed(full, 62, e), api.OK, shift(e), "Shift of 32", e)
		}
	}
}

// P19.3: numbers at both ends of ints, in edits and places, against numbers that have no end.
func TestShiftFar(t *testing.T) {
	var places []int
	for _, at := range odd() {
		if at >= 0 {
			places = append(places, at)
		}
	}
	right, wrong := 0, 0
	for _, at := range odd() {
		for _, out := range odd() {
			for _, in := range odd() {
				e := api.Edit{At: at, Out: out, In: in}
				for i, place := range places {
					l := []api.Mark{{Id: uint32(i), At: place, Gravity: uint8(i % 2)}}
					want, code := counted(l, e)
					does(t, l, want, code, shift(e), "Shift", e)
					l = with(l, api.Mark{Id: last, At: 0, Gravity: 1}, api.Mark{Id: 50, At: places[(i+5)%len(places)]})
					want, code = counted(l, e)
					does(t, l, want, code, shift(e), "Shift", e)
					if code == api.OK {
						right++
					} else {
						wrong++
					}
				}
				// An edit that may not be is none, whether there are marks or not.
				want, code := counted(nil, e)
				does(t, nil, want, code, shift(e), "Shift of none", e)
			}
		}
	}
	if right < 1000 || wrong < 1000 {
		t.Errorf("%d edits that go, %d that don't", right, wrong)
	}
}

// P19.3: the edges, one by one.
func TestShiftEdges(t *testing.T) {
	for _, x := range []struct {
		l    string
		e    api.Edit
		want string
		code api.Errno
	}{
		{"1:9223372036854775806", api.Edit{In: 1}, "1:9223372036854775807", api.OK},
		{"1:9223372036854775806", api.Edit{In: 2}, "", api.ErrArg},
		{"1:9223372036854775807", api.Edit{Out: 1, In: 1}, "1:9223372036854775807", api.OK},
		{"1:9223372036854775807", api.Edit{Out: 1, In: 2}, "", api.ErrArg},
		{"1:9223372036854775807", api.Edit{Out: top}, "1:0", api.OK},
		{"1:9223372036854775807g", api.Edit{Out: top, In: top}, "1:9223372036854775807g", api.OK},
		{"1:9223372036854775807", api.Edit{Out: top - 1, In: top - 1}, "1:9223372036854775807", api.OK},
		{"1:9223372036854775807g", api.Edit{At: top}, "1:9223372036854775807g", api.OK},
		{"1:9223372036854775807g", api.Edit{At: top, In: 1}, "", api.ErrArg},
		{"1:9223372036854775807", api.Edit{At: top, Out: 1}, "", api.ErrArg},
		{"1:0", api.Edit{At: 1, In: top}, "", api.ErrArg},
		{"1:0", api.Edit{At: 2, In: top - 1}, "", api.ErrArg},
		{"1:0", api.Edit{At: 2, Out: top - 1}, "", api.ErrArg},
		{"1:0", api.Edit{At: 2, Out: top - 2, In: top - 2}, "1:0", api.OK},
		{"1:0g", api.Edit{In: top}, "1:9223372036854775807g", api.OK},
		{"1:0 2:1", api.Edit{In: top}, "", api.ErrArg},
		{"1:1 2:0", api.Edit{In: top}, "", api.ErrArg},
		{"1:5", api.Edit{Out: -1}, "", api.ErrArg},
		{"1:5", api.Edit{At: -1}, "", api.ErrArg},
		{"1:5", api.Edit{At: -1, Out: 2, In: 2}, "", api.ErrArg},
		{"1:5", api.Edit{At: 9, Out: -1}, "", api.ErrArg},
		{"1:5", api.Edit{At: 9, In: math.MinInt}, "", api.ErrArg},
	} {
		does(t, read(t, x.l), read(t, x.want), x.code, shift(x.e), "Shift", x.e)
	}
}

// P19.3: wrong lists come ahead of wrong edits.
func TestShiftWrong(t *testing.T) {
	for name, x := range wrongLists() {
		for _, e := range []api.Edit{{}, {At: 3, Out: 1, In: 2}, {At: -1}, {Out: -1}, {In: -1}, {At: top, Out: 1}, {At: 1, In: top}} {
			does(t, x.l, nil, x.code, shift(e), "Shift", e, name)
		}
	}
}

// P19.6: marks that may be may be behind Shift, and lie in the text behind the edit.
func TestShiftLies(t *testing.T) {
	for n := range 7 {
		edits(n, func(e api.Edit) {
			if got := shifted(t, around(n), e); marks.Check(got, n-e.Out+e.In) != api.OK {
				t.Errorf("in %d bytes, by %v: %v", n, e, got)
			}
		})
	}
	r := rand.New(rand.NewPCG(19, 7))
	for range 20000 {
		length := r.IntN(top)
		var l []api.Mark
		for i := range 1 + r.IntN(32) {
			l = append(l, api.Mark{Id: uint32(i), At: r.IntN(length + 1), Gravity: uint8(r.IntN(2))})
		}
		e := api.Edit{At: r.IntN(length + 1)}
		e.Out = r.IntN(length - e.At + 1)
		e.In = r.IntN(top - (length - e.Out))
		if got := shifted(t, l, e); marks.Check(got, length-e.Out+e.In) != api.OK {
			t.Fatalf("%v in %d bytes, by %v: %v", l, length, e, got)
		}
	}
}

// P19.6: of two marks of one gravity the one that was not behind is not behind.
func TestShiftKeepsOrder(t *testing.T) {
	for n := range 7 {
		edits(n, func(e api.Edit) {
			for gravity := range uint8(2) {
				for a := range n + 1 {
					for b := a; b <= n; b++ {
						got := shifted(t, []api.Mark{{Id: 8, At: a, Gravity: gravity}, {Id: 3, At: b, Gravity: gravity}}, e)
						if got[0].Id != 3 || got[1].At > got[0].At {
							t.Errorf("%d and %d of %d, by %v: %v", a, b, gravity, e, got)
						}
					}
				}
			}
		})
	}
}

// P19.6: an edit of nothing changes nothing; two insertions at one place are as one; what is taken out and put in again brings back what stood apart from it.
func TestShiftFollows(t *testing.T) {
	for n := range 7 {
		l := around(n)
		for at := range n + 2 {
			does(t, l, byId(l), api.OK, shift(api.Edit{At: at}), "nothing at", at)
		}
		edits(n, func(e api.Edit) {
			for more := range 3 {
				one := shifted(t, l, api.Edit{At: e.At, In: e.In + more})
				for _, place := range []int{e.At, e.At + e.In} { // ahead of the first one, and behind it
					two := shifted(t, l, api.Edit{At: e.At, In: e.In}, api.Edit{At: place, In: more})
					if !slices.Equal(one, two) {
						t.Errorf("%v and %d more at %d: %v, not %v", e, more, place, two, one)
					}
				}
			}
			back := shifted(t, l, e, api.Edit{At: e.At, Out: e.In, In: e.Out})
			for i, m := range byId(l) {
				if (m.At < e.At || m.At > e.At+e.Out) && back[i] != m {
					t.Errorf("%v there and back: %v, not %v", e, back[i], m)
				}
			}
		})
	}
}
