package marks_test

import (
	"math/rand/v2"
	"slices"
	"strings"
	"testing"

	"vellum/api"
	"vellum/marks"
)

// pack is Pack, as does calls it: its bytes as marks of no meaning, one a byte.
func pack(l []api.Mark) ([]api.Mark, api.Errno) {
	s, e := marks.Pack(l)
	return asMarks(s), e
}

func asMarks(s string) []api.Mark {
	var l []api.Mark
	for i := range len(s) {
		l = append(l, api.Mark{Gravity: s[i]})
	}
	return l
}

// packs holds Pack of marks that may be, and Unpack of the bytes, in both ways.
func packs(t *testing.T, l []api.Mark) {
	t.Helper()
	want := bytesOf(byId(l)...)
	does(t, l, asMarks(want), api.OK, pack, "Pack")
	unpacks(t, want, byId(l), api.OK)
}

// unpacks holds Unpack, twice: the one answer has nothing of the other.
func unpacks(t *testing.T, s string, want []api.Mark, code api.Errno, name ...any) {
	t.Helper()
	for range 2 {
		got, e := marks.Unpack(s)
		if !slices.Equal(got, want) || e != code {
			t.Fatalf("%v: Unpack(% x) = %v, %d; not %v, %d", name, s, got, e, want, code)
		}
		for i := range got {
			got[i] = spoilt
		}
	}
}

// refused holds Unpack of what is the bytes of no marks.
func refused(t *testing.T, s string, name ...any) {
	t.Helper()
	unpacks(t, s, nil, api.ErrMark, name...)
}

// P19.5: the rows of the examples.
func TestBytesExamples(t *testing.T) {
	l := []api.Mark{{Id: 258, At: 3, Gravity: 1}}
	s := "\x02\x01\x00\x00\x03\x00\x00\x00\x00\x00\x00\x00\x01\x00\x00\x00"
	if got, e := marks.Pack(l); got != s || e != api.OK {
		t.Errorf("Pack = % x, %d", got, e)
	}
	unpacks(t, s, l, api.OK)
	refused(t, s[:15], "15 bytes")
	refused(t, s+s, "two of one Id")
	refused(t, s[:12]+"\x02\x00\x00\x00", "a gravity that is none")
}

// P19.5: there and back, of 0 to 32 marks, however they stand.
func TestPackUnpack(t *testing.T) {
	packs(t, nil)
	packs(t, []api.Mark{})
	r := rand.New(rand.NewPCG(19, 8))
	for n := range 33 {
		for k := range 20 {
			var l []api.Mark
			for _, i := range r.Perm(n) {
				id := []uint32{uint32(i), last - uint32(i), uint32(i) << 24, uint32(i)<<27 | r.Uint32N(1<<27)}[k%4]
				l = append(l, api.Mark{Id: id, At: r.IntN(top) >> r.IntN(63), Gravity: uint8(r.IntN(2))})
			}
			packs(t, l)
		}
	}
	// Ids that rise as numbers, but not as bytes, lowest first.
	packs(t, []api.Mark{{Id: 256}, {Id: 255}, {Id: 1 << 24}, {Id: 1<<24 - 1}, {Id: last}, {Id: 0}})
	packs(t, []api.Mark{{Id: 0x04030201, At: 0x0C0B0A0908070605, Gravity: 1}, {Id: 1, At: top}, {Id: 2, At: 0}})
	for shift := range 63 {
		packs(t, []api.Mark{{Id: uint32(shift), At: 1 << shift, Gravity: 1}, {Id: uint32(shift) + 1, At: 1<<shift - 1}})
	}
	for name, x := range wrongLists() {
		does(t, x.l, nil, x.code, pack, "Pack", name)
	}
}

// P19.5: of each text that is one byte away from the bytes of marks it is known whether it is that of marks, byte by byte.
func TestUnpackBytes(t *testing.T) {
	l := []api.Mark{{Id: 0x0201, At: 5}, {Id: 0x0203, At: 1 << 40, Gravity: 1}, {Id: 0x80000000, At: top, Gravity: 1}}
	s := bytesOf(l...)
	for i := range len(s) {
		for v := range 256 {
			other := s[:i] + string([]byte{byte(v)}) + s[i+1:]
			k, field := i/16, i%16
			isRight := true
			want := slices.Clone(l)
			switch {
			case field < 4:
				shift := 8 * field
				want[k].Id = want[k].Id&^(0xFF<<shift) | uint32(v)<<shift
				isRight = want[0].Id < want[1].Id && want[1].Id < want[2].Id
			case field < 12:
				shift := 8 * (field - 4)
				want[k].At = want[k].At&^(0xFF<<shift) | v<<shift
				isRight = want[k].At >= 0
			case field == 12:
				want[k].Gravity = uint8(v)
				isRight = v < 2
			default:
				isRight = v == 0
			}
			if isRight {
				unpacks(t, other, want, api.OK, i, v)
			} else {
				refused(t, other, i, v)
			}
		}
	}
}

// P19.5: lengths, Ids that do not rise, places of 2^63 and more, 33 marks.
func TestUnpackWrong(t *testing.T) {
	full := bytesOf(many(32)...)
	for n := range len(full) {
		if n%16 != 0 {
			refused(t, full[:n], n)
			refused(t, strings.Repeat("\x00", n), n, "bytes 0")
		}
	}
	for n := 33; n < 300; n++ {
		refused(t, bytesOf(many(n)...), n)
	}
	for more := 1; more < 40; more++ {
		refused(t, full+strings.Repeat("\x00", more), "more", more)
		refused(t, full+strings.Repeat("\xff", more), "more", more)
	}
	a, b := api.Mark{Id: 1, At: 2}, api.Mark{Id: 2, At: 1}
	refused(t, bytesOf(b, a), "Ids that fall")
	refused(t, bytesOf(a, a), "the same twice")
	refused(t, bytesOf(a, b, api.Mark{Id: 2, At: 9, Gravity: 1}), "an Id twice")
	refused(t, bytesOf(a, b, a), "an Id twice, apart")
	refused(t, bytesOf(api.Mark{Id: 256}, api.Mark{Id: 255}), "Ids that rise as bytes")
	refused(t, bytesOf(api.Mark{Id: last}, api.Mark{Id: 0}), "Ids from the greatest on")
	for i := range 31 {
		l := many(32)
		l[i], l[i+1] = l[i+1], l[i]
		refused(t, bytesOf(l...), "exchanged", i)
	}
	for _, at := range odd() {
		if at < 0 { // as bytes: 2^63 and more
			refused(t, bytesOf(api.Mark{Id: 1, At: at}), at)
			refused(t, bytesOf(a, api.Mark{Id: 7, At: at, Gravity: 1}), at)
		}
	}
	refused(t, strings.Repeat("\xff", 16))
	refused(t, strings.Repeat("\x00", 32), "two with the Id 0")
	unpacks(t, strings.Repeat("\x00", 16), []api.Mark{{}}, api.OK, "the mark of bytes 0")
	refused(t, strings.Repeat("\x00", 1<<22))
}
