package ulog

import (
	"bytes"

	"vellum/api"
	"vellum/bits"
)

// Where the fields of a record stand; each but the old bytes is a number of a word.
const (
	placeAt  = iota * api.WordSize // of the first old byte on the device
	placeLen                       // how many old bytes
	placeSum                       // of what stands ahead of it, and of the old bytes
	placeOld
)

// laid is the bytes of a record.
func laid(at int, old []byte) []byte {
	b := make([]byte, placeOld)
	put(b, placeAt, uint64(at))
	put(b, placeLen, uint64(len(old)))
	put(b, placeSum, uint64(bits.Sum(b[:placeSum], old)))
	b = append(b, old...)
	for len(b)%api.WordSize != 0 {
		b = append(b, 0)
	}
	return b
}

// put lays a number at a place.
func put(b []byte, place int, v uint64) { copy(b[place:], bits.Put(nil, v)) }

// take is the number at a place. One above the greatest int comes out below 0: neither an address nor a length may be that.
func take(b []byte, place int) int {
	v, _ := bits.Take[uint64](b, place)
	return int(v)
}

// read is the record that lies at a place of the room, and how many bytes it takes there.
func (l *Log) read(at int) (api.Record, int, api.Errno) {
	e, code := l.extent(at)
	if code != api.OK {
		return api.Record{}, 0, code
	}
	width, code := Need(e.Len)
	if code != api.OK || width > l.end()-at {
		return api.Record{}, 0, api.ErrLog
	}
	there, code := l.d.Load(at, width)
	if code != api.OK {
		return api.Record{}, 0, code
	}
	old := there[placeOld : placeOld+e.Len]
	// Of an address and old bytes there is one record: so this holds the sum and the last bytes against what they must be.
	if !bytes.Equal(there, laid(e.At, old)) {
		return api.Record{}, 0, api.ErrLog
	}
	return api.Record{At: e.At, Old: old}, width, api.OK
}

// extent is the extent of which the record at a place of the room says that it is.
func (l *Log) extent(at int) (api.Extent, api.Errno) {
	if at > l.end()-placeOld {
		return api.Extent{}, api.ErrLog
	}
	b, code := l.d.Load(at, placeOld)
	if code != api.OK {
		return api.Extent{}, code
	}
	e := api.Extent{At: take(b, placeAt), Len: take(b, placeLen)}
	if !l.may(e) {
		return api.Extent{}, api.ErrLog
	}
	return e, api.OK
}
