package disk

import "recto/api"

// trip counts a call that is right and finds the disk up. It tells what the arm does, if it goes off at that one.
func (d *Disk) trip() api.Errno {
	a := d.arm
	switch {
	case a == nil:
		return api.OK
	case a.After > 0:
		a.After--
		return api.OK
	}
	d.arm = nil
	if a.Cut {
		d.fall(a.Keep)
		return api.ErrDown
	}
	return api.ErrIO
}

// fall has the power go: of the k'th write that waits the first keep[k] sectors last.
func (d *Disk) fall(keep []int) {
	for k, w := range d.waits {
		if k == len(keep) {
			break
		}
		d.do(w, min(max(keep[k], 0), Sectors))
	}
	d.clear()
	d.arm = nil
	d.up = false
}

// do has the first sectors of a write last.
func (d *Disk) do(w write, sectors int) {
	copy(d.lasts[w.at][:sectors], w.says[:sectors])
}

// clear has nothing wait any more, so that each block reads as what lasts.
func (d *Disk) clear() {
	d.waits = nil
	copy(d.reads, d.lasts)
}
