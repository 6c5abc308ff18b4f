package marks

import (
	"slices"

	"vellum/api"
	"vellum/bits"
)

// Where a mark's bytes have its Id, its place, its gravity, and the three bytes 0; how many they are.
const (
	idAt      = 0
	placeAt   = 4
	gravityAt = 12
	zerosAt   = 13
	size      = 16
)

// laid is a mark's bytes.
func laid(m api.Mark) []byte {
	b := bits.Put(bits.Put(nil, m.Id), uint64(m.At))
	return append(bits.Put(b, m.Gravity), make([]byte, size-zerosAt)...)
}

// taken is the mark whose bytes these are, if they are those of one.
func taken(b []byte) api.Mark {
	// Of bytes that are too few the numbers are 0, and a place above the greatest int is below 0: laid anew neither is the same.
	id, _ := bits.Take[uint32](b, idAt)
	at, _ := bits.Take[uint64](b, placeAt)
	gravity, _ := bits.Take[uint8](b, gravityAt)
	return api.Mark{Id: id, At: int(at), Gravity: gravity}
}

// Pack is the bytes of the marks, by rising Id.
func Pack(l []api.Mark) (string, api.Errno) {
	if code := check(l); code != api.OK {
		return "", code
	}
	var b []byte
	for _, m := range ordered(l, byId) {
		b = append(b, laid(m)...)
	}
	return string(b), api.OK
}

// Unpack is the marks whose bytes these are.
func Unpack(s string) ([]api.Mark, api.Errno) {
	if len(s) > api.MaxMarks*size {
		return nil, api.ErrMark
	}
	var l []api.Mark
	for b := range slices.Chunk([]byte(s), size) {
		l = append(l, taken(b))
	}
	// Whether they rise, may be, and have bytes 0 where these must stand is seen by packing them anew.
	if again, code := Pack(l); code != api.OK || again != s {
		return nil, api.ErrMark
	}
	return l, api.OK
}
