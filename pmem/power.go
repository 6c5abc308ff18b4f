package pmem

import (
	"slices"

	"vellum/api"
)

// Arm lets losses of power wait, behind those that wait.
func (d *Device) Arm(arms ...api.Arm) api.Errno {
	if code := d.state(); code != api.OK {
		return code
	}
	for _, a := range arms {
		if a.After < 1 || !mayKeep(a.Keep) {
			return api.ErrArg
		}
	}
	if len(arms) > api.MaxArms-len(d.arms) {
		return api.ErrLong
	}
	for _, a := range arms {
		keep := a.Keep[:min(len(a.Keep), len(d.seen))]
		d.arms = append(d.arms, api.Arm{After: a.After, Keep: slices.Clone(keep)})
	}
	return api.OK
}

// mayKeep says whether no number of a list is below 0.
func mayKeep(keep []int) bool {
	for _, k := range keep {
		if k < 0 {
			return false
		}
	}
	return true
}

// operated counts an operation that was done, and lets the power go, if the first arm has counted its last one.
func (d *Device) operated() api.Errno {
	d.ops++
	if len(d.arms) == 0 {
		return api.OK
	}
	d.counted++
	first := d.arms[0]
	if d.counted < first.After {
		return api.OK
	}
	d.arms = slices.Delete(d.arms, 0, 1)
	d.counted = 0
	d.lose(first.Keep)
	return api.ErrOff
}

// lose lets the power go: of each line the content stays that keep names.
func (d *Device) lose(keep []int) {
	// The others have one content alone, which is kept whatever the number is.
	for line, p := range d.older {
		k := 0
		if line < len(keep) {
			k = keep[line] % (p.n + 1)
		}
		if k < p.n {
			d.seen[line] = p.at(k)
		}
	}
	d.settle()
	d.off = true
}

// Crash lets the power go now.
func (d *Device) Crash(keep ...int) api.Errno {
	if code := d.state(); code != api.OK {
		return code
	}
	if !mayKeep(keep) {
		return api.ErrArg
	}
	d.lose(keep)
	return api.OK
}

// Off says whether the power is gone.
func (d *Device) Off() bool { return !d.none() && d.off }

// Wake lets the power come back.
func (d *Device) Wake() api.Errno {
	if d.none() {
		return api.ErrNil
	}
	if !d.off {
		return api.ErrState
	}
	d.off = false
	return api.OK
}
