package persist

import (
	"vellum/api"
	"vellum/bits"
	"vellum/pmem"
)

// step is something that is done to a device.
type step func() api.Errno

// stretch is bytes of a device: n of them, from at on.
type stretch struct {
	d     *pmem.Device
	at, n int
}

// lies says whether the bytes all lie on the device. (No sum: it might pass the greatest int.)
func (s stretch) lies() bool {
	return s.at >= 0 && s.n <= s.d.Size()-s.at
}

// inTurn takes the steps, one behind the other, up to the first one that does not go well; none, if there are no bytes.
func (s stretch) inTurn(steps ...step) api.Errno {
	// Each device has the place 0: so what this answers is said of the device alone.
	if _, code := s.d.Load(0, 0); code != api.OK || s.n < 1 {
		return code
	}
	if !s.lies() {
		return api.ErrRange
	}
	for _, take := range steps {
		if code := take(); code != api.OK {
			return code
		}
	}
	return api.OK
}

// flush marks each line that has some of the bytes.
func (s stretch) flush() api.Errno {
	for line := range bits.Lines(s.at, s.n) {
		if code := s.d.Flush(line * api.LineSize); code != api.OK {
			return code
		}
	}
	return api.OK
}

// text is the bytes that a stretch is to have.
type text struct {
	stretch
	b []byte
}

// store writes them, word by word.
func (x text) store() api.Errno { return x.d.Store(x.at, x.b) }

// word is the number that a stretch of eight bytes is to have.
type word struct {
	stretch
	v uint64
}

// store writes it as one operation; at a place that is none of a word the device refuses it.
func (w word) store() api.Errno { return w.d.Store8(w.at, w.v) }
