package disk

import (
	"math/rand"
	"slices"
	"strings"
	"testing"

	"recto/api"
)

// full is a block's text of one letter; sectors is one whose sectors have a letter each.
func full(letter string) string { return strings.Repeat(letter, BlockSize) }

func sectors(letters string) string {
	s := ""
	for _, c := range letters {
		s += strings.Repeat(string(c), SectorSize)
	}
	return s
}

// show is a block's text by the letters of its sectors, where each has one; 0 is a sector of 0.
func show(s string) string {
	if len(s) != BlockSize {
		return "not a block: " + s
	}
	out := ""
	for i := range Sectors {
		x := s[i*SectorSize : (i+1)*SectorSize]
		switch {
		case strings.Trim(x, x[:1]) != "":
			return s
		case x[0] == 0:
			out += "0"
		default:
			out += x[:1]
		}
	}
	return out
}

// disks have all calls of a disk, the plain one too.
type disks interface {
	Blocks() int
	Read(i int) (string, api.Errno)
	Write(i int, s string) api.Errno
	Flush() api.Errno
	Set(a Arm) api.Errno
	Crash(keep []int) api.Errno
	Start() api.Errno
	Up() bool
	Waits() int
	Lasts(i int) string
}

// plainDisk is a disk as the chapter tells it, word by word.
type plainDisk struct {
	lasts []string
	waits []plainWrite
	down  bool
	armed bool
	arm   Arm
}

type plainWrite struct {
	at   int
	says string
}

func newPlain(blocks int) *plainDisk {
	return &plainDisk{lasts: slices.Repeat([]string{full("\x00")}, blocks)}
}

func (d *plainDisk) Blocks() int { return len(d.lasts) }

func (d *plainDisk) Up() bool { return !d.down }

func (d *plainDisk) Waits() int { return len(d.waits) }

func (d *plainDisk) Lasts(i int) string {
	if i < 0 || i >= len(d.lasts) {
		return ""
	}
	return d.lasts[i]
}

func (d *plainDisk) Read(i int) (string, api.Errno) {
	if i < 0 || i >= len(d.lasts) {
		return "", api.ErrArg
	}
	if d.down {
		return "", api.ErrDown
	}
	for _, w := range slices.Backward(d.waits) {
		if w.at == i {
			return w.says, api.OK
		}
	}
	return d.lasts[i], api.OK
}

func (d *plainDisk) Write(i int, s string) api.Errno {
	if i < 0 || i >= len(d.lasts) || len(s) != BlockSize {
		return api.ErrArg
	}
	if d.down {
		return api.ErrDown
	}
	if e := d.off(); e != api.OK {
		return e
	}
	d.waits = append(d.waits, plainWrite{i, s})
	return api.OK
}

func (d *plainDisk) Flush() api.Errno {
	if d.down {
		return api.ErrDown
	}
	if e := d.off(); e != api.OK {
		d.waits = nil
		return e
	}
	for _, w := range d.waits {
		d.lasts[w.at] = w.says
	}
	d.waits = nil
	return api.OK
}

func (d *plainDisk) off() api.Errno {
	if !d.armed {
		return api.OK
	}
	if d.arm.After > 0 {
		d.arm.After--
		return api.OK
	}
	d.armed = false
	if !d.arm.Cut {
		return api.ErrIO
	}
	d.power(d.arm.Keep)
	return api.ErrDown
}

func (d *plainDisk) power(keep []int) {
	for k, w := range d.waits {
		for j := range Sectors {
			if k < len(keep) && j < keep[k] {
				from, to := j*SectorSize, (j+1)*SectorSize
				old := d.lasts[w.at]
				d.lasts[w.at] = old[:from] + w.says[from:to] + old[to:]
			}
		}
	}
	d.waits, d.down, d.armed = nil, true, false
}

func (d *plainDisk) Set(a Arm) api.Errno {
	if a.After < 0 {
		return api.ErrArg
	}
	if d.down {
		return api.ErrDown
	}
	d.armed, d.arm = true, Arm{a.After, a.Cut, slices.Clone(a.Keep)}
	return api.OK
}

func (d *plainDisk) Crash(keep []int) api.Errno {
	if d.down {
		return api.ErrDown
	}
	d.power(keep)
	return api.OK
}

func (d *plainDisk) Start() api.Errno {
	if !d.down {
		return api.ErrState
	}
	d.down = false
	return api.OK
}

// differ tells what one disk tells otherwise than another one; the arm can't be told but by later calls.
func differ(a, b disks) string {
	switch {
	case a.Blocks() != b.Blocks():
		return "Blocks"
	case a.Up() != b.Up():
		return "Up"
	case a.Waits() != b.Waits():
		return "Waits"
	}
	for i := -1; i <= a.Blocks(); i++ {
		if a.Lasts(i) != b.Lasts(i) {
			return "Lasts"
		}
		s, e := a.Read(i)
		if z, f := b.Read(i); s != z || e != f {
			return "Read"
		}
	}
	return ""
}

func agree(t testing.TB, what string, a, b disks) {
	t.Helper()
	if x := differ(a, b); x != "" {
		t.Fatalf("%s: another %s", what, x)
	}
}

// step is a call, with what it is told by.
type step struct {
	what string
	call func(d disks) api.Errno
}

func writing(i int, s string) step {
	return step{"Write(" + show(s) + ")", func(d disks) api.Errno { return d.Write(i, s) }}
}

func flush() step { return step{"Flush", disks.Flush} }

func start() step { return step{"Start", disks.Start} }

func crash(keep ...int) step {
	return step{"Crash", func(d disks) api.Errno { return d.Crash(keep) }}
}

func failAt(after int) step {
	return step{"Set(failure)", func(d disks) api.Errno { return d.Set(Arm{After: after}) }}
}

func cutAt(after int, keep ...int) step {
	return step{"Set(cut)", func(d disks) api.Errno { return d.Set(Arm{After: after, Cut: true, Keep: keep}) }}
}

// anyStep is a call of any kind, right or not.
func anyStep(r *rand.Rand, blocks int) step {
	var keep []int
	for range r.Intn(6) {
		keep = append(keep, r.Intn(Sectors+3)-1)
	}
	switch n := r.Intn(40); {
	case n < 20:
		return writing(r.Intn(blocks), anyText(r))
	case n < 25:
		return flush()
	case n < 27:
		return failAt(r.Intn(8))
	case n < 30:
		return cutAt(r.Intn(8), keep...)
	case n < 33:
		return crash(keep...)
	case n < 37:
		return start()
	case n == 37:
		return writing(-1-r.Intn(3), anyText(r))
	case n == 38:
		return writing(blocks+r.Intn(3), anyText(r))
	}
	return failAt(-1 - r.Intn(3))
}

func anyText(r *rand.Rand) string {
	b := make([]byte, BlockSize)
	for i := range b {
		b[i] = byte(r.Intn(256))
	}
	return string(b)
}
