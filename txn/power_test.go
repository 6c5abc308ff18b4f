package txn_test

import (
	"bytes"
	"fmt"
	"maps"
	"math/rand/v2"
	"slices"
	"testing"

	"vellum/api"
	"vellum/pmem"
)

// keeps is each choice of what lines keep.
func keeps(d *pmem.Device) [][]int {
	l := [][]int{{}}
	for line := range d.Size() / 64 {
		var longer [][]int
		for _, keep := range l {
			for k := range d.Contents(line) {
				longer = append(longer, append(keep[:len(keep):len(keep)], k))
			}
		}
		l = longer
	}
	return l
}

// cutOff lets the power go behind each of these operations, which a call comes to, with each choice of what lines keep: it answers ErrOff, and has done the operations up to there alone. What is left is handed on, the power being back.
func cutOff(t *testing.T, name string, d *pmem.Device, ops []op, call func(name string, d *pmem.Device) api.Errno, then func(name string, left *pmem.Device)) {
	t.Helper()
	stopped := d.Copy()
	for i, o := range ops {
		well(t, o.do(stopped))
		for _, keep := range keeps(stopped) {
			got, want := d.Copy(), stopped.Copy()
			well(t, got.Arm(api.Arm{After: i + 1, Keep: keep}), want.Crash(keep...))
			at := fmt.Sprintf("%s, the power going behind operation %d (%s), lines keeping %v", name, i+1, o.name, keep)
			if e := call(at, got); e != api.ErrOff {
				t.Fatalf("%s: %d", at, e)
			}
			// Behind a loss of power each line has one content: so the images tell all of them.
			if got.Ops() != want.Ops() || !got.Off() || !bytes.Equal(got.Image(), want.Image()) {
				t.Fatalf("%s: %d operations, not %d, off %v, % x", at, got.Ops(), want.Ops(), got.Off(), got.Image())
			}
			well(t, got.Wake())
			then(at, got)
		}
	}
}

// scene is a device all of whose lines have one content, with a log without records, and what is put into a transaction there.
type scene struct {
	name string
	place
	image string
	puts  []put
}

// scenes is small ones.
func scenes() []scene {
	one, two := place{128, 128}, place{64, 192}
	return []scene{
		{"one logged byte", one, one.empty(320), []put{stored(64, "a")}},
		{"one fresh byte", one, one.empty(320), []put{freshened(64, "a")}},
		{"fresh bytes alone, of the first line and over the edge of others", two, two.empty(384), []put{freshened(9, "abc"), freshened(318, "defg")}},
		{"logged over words", one, one.empty(320), []put{stored(68, "abcdefgh")}},
		{"logged over the edge of lines", two, two.empty(384), []put{stored(318, "abcd")}},
		{"ahead of the log and behind it", one, one.empty(320), []put{stored(124, "abcd"), stored(256, "efgh")}},
		{"both kinds in one word", one, one.empty(320), []put{stored(64, "ab"), freshened(66, "cd"), freshened(71, "e")}},
		{"both kinds in one line", one, one.empty(320), []put{stored(300, "ab"), freshened(310, "cd")}},
		{"by turns", two, two.empty(320), []put{stored(256, "a"), freshened(257, "b"), stored(258, "c"), freshened(259, "d")}},
		{"first logged, then fresh", one, one.empty(320), []put{stored(64, "abc"), freshened(64, "def")}},
		{"first fresh, then logged", one, one.empty(320), []put{freshened(64, "abc"), stored(66, "def")}},
		{"the same bytes", one, one.empty(320), []put{stored(64, rising(72)[64:72]), freshened(260, rising(264)[260:264])}},
		{"a full log", one, one.empty(320), []put{stored(256, rising(40))}},
		{"three lines", two, two.empty(448), []put{stored(256, "a"), stored(383, "bc"), freshened(440, "d")}},
		{"fresh bytes over two lines", one, one.empty(384), []put{freshened(316, "abcdefgh"), stored(64, "i")}},
		{"a log of bytes 0", one, zeros(320), []put{stored(64, "root"), freshened(256, "block")}},
	}
}

// whole says which the logged bytes of an image are, those that were or those that were put in; that all of them are one of the two, and that all other bytes but fresh ones and the log's are as they were, is held.
func (s scene) whole(t *testing.T, name, image string) (was, is bool) {
	t.Helper()
	m := modelOf(s.puts)
	old, now := s.image, m.changed(s.image, false)
	was, is = true, true
	for at := range len(image) {
		if m.is(at, true) || at >= s.at && at < s.at+s.size {
			continue
		}
		if !m.is(at, false) && image[at] != s.image[at] {
			t.Fatalf("%s: the byte %d is %x, not %x", name, at, image[at], s.image[at])
		}
		was = was && image[at] == old[at]
		is = is && image[at] == now[at]
	}
	if !was && !is {
		t.Fatalf("%s: logged bytes are neither what they were nor what was put in: % x", name, image)
	}
	return was, is
}

// recovers is a Recover by a new log and a new pool.
func (s scene) recovers(t *testing.T) func(name string, d *pmem.Device) api.Errno {
	return func(name string, d *pmem.Device) api.Errno {
		t.Helper()
		pool := s.pool(t, d)
		n, e := pool.Recover()
		if e != api.OK {
			if n != 0 {
				t.Fatalf("%s: Recover = %d, %d", name, n, e)
			}
			refused(t, name, api.ErrOff, pool.State())
		}
		return e
	}
}

// recovering is the operations of that Recover: the log of an image holds no record, or those of all extents.
func (s scene) recovering(t *testing.T, name, image string) []op {
	t.Helper()
	extents := modelOf(s.puts).runs(len(s.image), false)
	switch image[s.at : s.at+8] {
	case word(0):
		return nil
	case word(uint64(len(extents))):
		if b := records(s.image, extents); image[s.at+64:s.at+64+len(b)] != b {
			t.Fatalf("%s: the records are % x, not % x", name, image[s.at+64:], b)
		}
		return s.rolling(image, extents)
	}
	t.Fatalf("%s: % x records", name, image[s.at:s.at+8])
	return nil
}

// settled makes a Recover that is not cut off: it answers OK, all is whole, and lasts, and the transaction can be made again.
func (s scene) settled(t *testing.T, name string, d *pmem.Device) (was, is bool) {
	t.Helper()
	got, want := d.Copy(), d.Copy()
	ops := s.recovering(t, name, string(d.Image()))
	refused(t, name, api.OK, s.recovers(t)(name, got))
	for _, o := range ops {
		well(t, o.do(want))
	}
	same(t, name+", Recover", got, want)
	was, is = s.whole(t, name, string(got.Image()))
	for line := range got.Size() / 64 {
		if l := got.Contents(line); len(l) != 1 {
			t.Fatalf("%s, Recover: line %d has %d contents", name, line, len(l))
		}
	}
	well(t, s.pool(t, got).State())
	if was {
		again := s.commits(t, name+", again", got, s.puts)
		if _, is := s.whole(t, name+", again", string(again.Image())); !is {
			t.Fatalf("%s: again, it was not done", name)
		}
	}
	return was, is
}

// committed is a Commit of what a scene puts in; the transaction is over behind ErrOff, whatever becomes of the device.
func (s scene) committed(t *testing.T) func(name string, d *pmem.Device) api.Errno {
	return func(name string, d *pmem.Device) api.Errno {
		t.Helper()
		pool := s.pool(t, d)
		x := begun(t, pool)
		for _, u := range s.puts {
			well(t, u.into(x))
		}
		if d.Ops() != 0 {
			t.Fatalf("%s: %d operations ahead of Commit", name, d.Ops())
		}
		e := x.Commit()
		ended(t, name, x)
		if _, f := pool.Begin(); e == api.ErrOff && f != api.ErrOff {
			t.Fatalf("%s: Begin = %d", name, f)
		}
		return e
	}
}

// P12.7, P12.9: the power goes behind each operation of a Commit, and of each Recover behind it, over and over, with each choice of what lines keep, until no new image comes about: a Recover that is not cut off always leaves all or nothing; each comes about.
func TestOverAndOver(t *testing.T) {
	for _, s := range scenes() {
		seen := map[string]bool{}
		old, now := 0, 0
		left := func(name string, d *pmem.Device) {
			if b := string(d.Image()); !seen[b] {
				seen[b] = true
				was, is := s.settled(t, name, d)
				if was {
					old++
				}
				if is {
					now++
				}
			}
		}
		ops, code := modelOf(s.puts).committing(s.place, s.image)
		well(t, code)
		cutOff(t, s.name, from(t, s.image), ops, s.committed(t), left)
		done := map[string]bool{}
		for again := true; again; {
			again = false
			for _, image := range slices.Sorted(maps.Keys(seen)) {
				if done[image] {
					continue
				}
				done[image], again = true, true
				cutOff(t, s.name, from(t, image), s.recovering(t, s.name, image), s.recovers(t), left)
			}
		}
		if old == 0 || now == 0 {
			t.Errorf("%s: of %d images nothing was done in %d, all in %d", s.name, len(seen), old, now)
		}
	}
}

// P12.9: a Commit that answered OK: what was put in is there, logged and fresh bytes, and lasts, whatever lines keep; all else but the log is as it was.
func TestCommittedLasts(t *testing.T) {
	for _, s := range scenes() {
		d := s.commits(t, s.name, from(t, s.image), s.puts)
		want := modelOf(s.puts).shown(s.image)
		for _, keep := range append(keeps(d), nil, []int{1, 1, 1, 1, 1, 1, 1}, []int{9, 8, 7, 6, 5, 4, 3}) {
			lost := d.Copy()
			well(t, lost.Crash(keep...), lost.Wake())
			b := string(lost.Image())
			if b[:s.at] != want[:s.at] || b[s.at+s.size:] != want[s.at+s.size:] {
				t.Fatalf("%s, lines keeping %v: % x", s.name, keep, b)
			}
			pool := s.pool(t, lost)
			well(t, pool.State())
			if n, e := pool.Recover(); n != 0 || e != api.OK || lost.Ops() != d.Ops() {
				t.Fatalf("%s: Recover = %d, %d, %d operations", s.name, n, e, lost.Ops()-d.Ops())
			}
		}
	}
}

// P12.7, P12.9: up to the word that tells of the records nothing is done, whatever lines keep; behind the last Fence all is.
func TestTheOneWord(t *testing.T) {
	for _, s := range scenes() {
		m := modelOf(s.puts)
		ops, _ := m.committing(s.place, s.image)
		logged := m.runs(len(s.image), false)
		if len(logged) == 0 || m.changed(s.image, false) == s.image {
			continue
		}
		for after := 1; after <= len(ops); after++ {
			for k := range 12 {
				d := from(t, s.image)
				well(t, d.Arm(api.Arm{After: after, Keep: slices.Repeat([]int{k}, 7)}))
				refused(t, s.name, api.ErrOff, s.committed(t)(s.name, d))
				well(t, d.Wake())
				refused(t, s.name, api.OK, s.recovers(t)(s.name, d))
				was, is := s.whole(t, s.name, string(d.Image()))
				if after < len(ops)-2 && !was || after == len(ops) && !is {
					t.Fatalf("%s, the power going behind %d of %d, lines keeping %d: done %v", s.name, after, len(ops), k, is)
				}
			}
		}
	}
}

// P12.7: also where lines had several contents, and were flushed, and where the log refuses what is logged: a Commit has done its operations up to there, and nothing more.
func TestThePowerGoesOnBusyDevices(t *testing.T) {
	p := place{128, 128}
	clean := from(t, p.empty(384))
	stores := clean.Copy()
	well(t, stores.Store8(64, 1), stores.Store8(144, 2), stores.Store8(256, 3), stores.Store8(312, 4))
	flushed := stores.Copy()
	well(t, flushed.Flush(64), flushed.Flush(128), flushed.Flush(192), flushed.Flush(256), flushed.Store8(72, 5))
	for name, d := range map[string]*pmem.Device{"clean": clean, "stored": stores, "flushed": flushed} {
		for _, puts := range [][]put{
			{stored(70, "abc")},
			{freshened(70, "abc"), freshened(318, "defg")},
			{freshened(70, "abc"), stored(260, "d")},
			{freshened(70, "abc"), stored(0, "d")},
			{freshened(318, "abcd"), stored(100, rising(10)), stored(256, rising(40))},
		} {
			at := fmt.Sprint(name, ", ", puts)
			ops, _ := modelOf(puts).committing(p, string(d.Image()))
			cutOff(t, at, d, ops, func(name string, d *pmem.Device) api.Errno {
				x := begun(t, p.pool(t, d))
				for _, u := range puts {
					well(t, u.into(x))
				}
				e := x.Commit()
				ended(t, name, x)
				return e
			}, func(string, *pmem.Device) {})
		}
	}
}

// P12.7: the power goes behind the operation that follows a Commit: the Commit goes well.
func TestThePowerGoesBehindCommit(t *testing.T) {
	for _, s := range scenes() {
		d := from(t, s.image)
		ops, _ := modelOf(s.puts).committing(s.place, s.image)
		well(t, d.Arm(api.Arm{After: len(ops) + 1}))
		x := begun(t, s.pool(t, d))
		for _, u := range s.puts {
			well(t, u.into(x))
		}
		well(t, x.Commit())
		if d.Off() {
			t.Fatalf("%s: off", s.name)
		}
		refused(t, s.name, api.ErrOff, d.Fence())
	}
}

// P12.3, P12.7: arms that wait behind the first one see no operation of a Commit that was cut off; while the device is off nothing is done; the second one cuts off the Recover, if that does something.
func TestArmsInARow(t *testing.T) {
	recovers := 0
	for _, s := range scenes() {
		ops, _ := modelOf(s.puts).committing(s.place, s.image)
		for after := 1; after <= len(ops); after++ {
			d := from(t, s.image)
			well(t, d.Arm(api.Arm{After: after, Keep: slices.Repeat([]int{1}, 7)}, api.Arm{After: 1}))
			refused(t, s.name, api.ErrOff, s.committed(t)(s.name, d))
			was := d.Copy()
			refused(t, s.name, api.ErrOff, s.recovers(t)(s.name, d))
			same(t, s.name, d, was)
			if d.Ops() != after {
				t.Fatalf("%s, an arm of %d: %d operations", s.name, after, d.Ops())
			}
			well(t, d.Wake())
			if len(s.recovering(t, s.name, string(d.Image()))) > 0 {
				recovers++
				refused(t, s.name, api.ErrOff, s.recovers(t)(s.name, d))
				if d.Ops() != after+1 {
					t.Fatalf("%s, an arm of %d, then Recover: %d operations", s.name, after, d.Ops()-after)
				}
			} else {
				well(t, s.recovers(t)(s.name, d))
				refused(t, s.name, api.ErrOff, d.Fence())
			}
			well(t, d.Wake())
			s.settled(t, s.name, d)
		}
	}
	if recovers < 20 {
		t.Errorf("%d times something was to be brought back", recovers)
	}
}

// P12.9: long rows of transactions on one device, cut off anywhere, Recovers too: what a Recover leaves is all or nothing of the one that was under way, and all of those ahead of it.
func TestLongRowsOfLosses(t *testing.T) {
	p := place{128, 256}
	const size = 896
	r := rand.New(rand.NewPCG(12, 9))
	d := from(t, p.empty(size))
	cut, done, undone := 0, 0, 0
	for round := range 3000 {
		keep := make([]int, size/64)
		for i := range keep {
			keep[i] = r.IntN(12)
		}
		var puts []put
		for range 1 + r.IntN(4) {
			puts = append(puts, anyPut(r, 384, size, 30))
		}
		if r.IntN(2) == 0 {
			puts = append(puts, stored(64+r.IntN(56), "root"))
		}
		s := scene{fmt.Sprint("round ", round, ", ", puts), p, string(d.Image()), puts}
		ops, code := modelOf(puts).committing(p, s.image)
		x := begun(t, p.pool(t, d))
		for _, u := range puts {
			well(t, u.into(x))
		}
		if code == api.OK && len(ops) > 0 && r.IntN(4) > 0 {
			well(t, d.Arm(api.Arm{After: 1 + r.IntN(len(ops)), Keep: keep}))
			code = api.ErrOff
			cut++
		}
		if e := x.Commit(); e != code {
			t.Fatalf("%s: Commit = %d, not %d", s.name, e, code)
		}
		if code == api.OK {
			well(t, d.Crash(keep...))
		} else if code != api.ErrOff {
			well(t, x.Drop(), d.Crash(keep...))
		}
		well(t, d.Wake())
		for l := s.recovering(t, s.name, string(d.Image())); len(l) > 0 && r.IntN(2) == 0; l = s.recovering(t, s.name, string(d.Image())) {
			well(t, d.Arm(api.Arm{After: 1 + r.IntN(len(l)), Keep: keep}))
			refused(t, s.name, api.ErrOff, s.recovers(t)(s.name, d))
			well(t, d.Wake())
		}
		refused(t, s.name, api.OK, s.recovers(t)(s.name, d))
		well(t, d.Crash(keep...), d.Wake())
		was, is := s.whole(t, s.name, string(d.Image()))
		if code == api.OK && !is || code != api.OK && code != api.ErrOff && !was {
			t.Fatalf("%s: Commit = %d, done %v", s.name, code, is)
		}
		if is && !was {
			done++
		}
		if was && !is {
			undone++
		}
		if image := string(d.Image()); code == api.OK && image != over(modelOf(puts).shown(s.image), p.at, image[p.at:p.at+p.size]) {
			t.Fatalf("%s: not what was put in", s.name)
		}
	}
	if cut < 1000 || done < 500 || undone < 500 {
		t.Errorf("%d times cut off, %d times done, %d times not", cut, done, undone)
	}
}
