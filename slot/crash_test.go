package slot

import (
	"math/rand"
	"testing"

	"recto/api"
	"recto/disk"
)

// pairs are blocks 0 and 1 of disks on which a slot counts.
func pairs(t testing.TB) [][2]string {
	none := zeros(disk.BlockSize)
	a, b, c := must(t, Slot{7, 1, 300, 2}), must(t, Slot{6, 0, 200, 1}), must(t, Slot{7, 0, 3, 4})
	return [][2]string{{a, none}, {none, a}, {a, b}, {b, a}, {a, c}, {c, a}, {a, a[:8] + "x" + a[9:]}}
}

// keeps are how many sectors of each of so many writes may last, and fewer and more than there are writes.
func keeps(writes int) [][]int {
	all := [][]int{nil}
	for range writes {
		longer := [][]int{nil}
		for _, k := range all {
			for n := -1; n <= disk.Sectors+1; n++ {
				longer = append(longer, append(append([]int{}, k...), n))
			}
		}
		all = longer
	}
	return all
}

// Promises 28.2 and 28.3: a Put that fails or is cut at each of its calls, with each number of sectors kept.
func TestPutStopped(t *testing.T) {
	put := Slot{Region: 1, Bytes: 65536, Records: 9}
	for _, texts := range pairs(t) {
		for after := range 4 {
			for _, cut := range []bool{false, true} {
				for _, keep := range keeps(1) {
					d := holding(t, texts[0], texts[1])
					old, at := plainChoose(texts[0], texts[1])
					next := put
					next.Number = old.Number + 1
					d.Set(disk.Arm{After: after, Cut: cut, Keep: keep})
					e := Put(d, put)
					switch {
					case after > 1:
						is(t, "Put", e, api.OK)
					case cut:
						is(t, "Put", e, api.ErrDown)
					default:
						is(t, "Put", e, api.ErrIO)
					}
					if d.Waits() != 0 || d.Lasts(at) != texts[at] {
						t.Errorf("Put: %d wait", d.Waits())
					}
					if d.Up() == (cut && after < 2) {
						t.Errorf("up %v", d.Up())
					}
					d.Start()
					// All of a slot is in its first sector.
					if after > 1 || cut && after == 1 && len(keep) > 0 && keep[0] > 0 {
						chooses(t, "the new one", d, next, 1-at)
					} else {
						chooses(t, "the old one", d, old, at)
						if d.Lasts(1-at) != texts[1-at] {
							t.Error("the other block is another")
						}
					}
				}
			}
		}
	}
}

// Promise 28.2: what waited ahead of a Put is done with it, or, if its Flush fails, gone.
func TestPutWithOthers(t *testing.T) {
	w := must(t, Slot{Number: 77})
	for after := range 3 {
		d := holding(t, must(t, Slot{Number: 1}), zeros(disk.BlockSize))
		d.Write(3, w)
		d.Set(disk.Arm{After: after})
		e := Put(d, Slot{Bytes: 4})
		switch after {
		case 0: // Write is not done, and nothing behind it
			is(t, "Put", e, api.ErrIO)
			if s, _ := d.Read(3); s != w || d.Waits() != 1 || d.Lasts(3) == w {
				t.Errorf("%d wait", d.Waits())
			}
			chooses(t, "a Write that fails", d, Slot{Number: 1}, 0)
		case 1:
			is(t, "Put", e, api.ErrIO)
			if s, _ := d.Read(3); s == w || d.Waits() != 0 {
				t.Errorf("%d wait", d.Waits())
			}
			chooses(t, "a Flush that fails", d, Slot{Number: 1}, 0)
		default:
			is(t, "Put", e, api.OK)
			if d.Lasts(3) != w || d.Waits() != 0 {
				t.Errorf("%d wait", d.Waits())
			}
			chooses(t, "Put", d, Slot{Number: 2, Bytes: 4}, 1)
		}
	}
}

// Promise 28.3: of rows of Puts that are stopped anywhere, each leaves its slot, or the one that counted ahead.
func TestPutRows(t *testing.T) {
	for seed := range int64(500) {
		r := rand.New(rand.NewSource(seed))
		d := fresh(t, 4+r.Intn(3))
		is(t, "Format", Format(d), api.OK)
		old := Slot{Number: 1}
		for range 40 {
			next := anySlot(r)
			if r.Intn(3) > 0 {
				d.Set(disk.Arm{After: r.Intn(4), Cut: r.Intn(2) == 0, Keep: []int{r.Intn(7) - 1, r.Intn(7) - 1}})
			}
			e := Put(d, next)
			next.Number = old.Number + 1
			if r.Intn(4) == 0 {
				d.Crash([]int{r.Intn(7) - 1})
			}
			d.Start()
			s, at, f := Choose(d)
			if f != api.OK || s != next && (e == api.OK || s != old) || d.Lasts(at) != plainBlock(s) {
				t.Fatalf("seed %d: Put %v: %v; Choose: %v, %d, %v", seed, next, e, s, at, f)
			}
			old = s
		}
	}
}

// Promise 28.2: a Format that fails or is cut at each of its calls: its writes are block 0's, then block 1's.
func TestFormatStopped(t *testing.T) {
	first, none := plainBlock(Slot{Number: 1}), zeros(disk.BlockSize)
	for _, texts := range append(pairs(t), [2]string{none, none}) {
		for after := range 5 {
			for _, keep := range keeps(2) {
				kept := func(k int, old, text string) string {
					if k >= len(keep) {
						return old
					}
					at := min(max(keep[k], 0), disk.Sectors) * disk.SectorSize
					return text[:at] + old[at:]
				}
				d := holding(t, texts[0], texts[1])
				d.Set(disk.Arm{After: after, Cut: true, Keep: keep})
				e, want := Format(d), texts
				switch after {
				case 0:
				case 1:
					want[0] = kept(0, texts[0], first)
				case 2:
					want = [2]string{kept(0, texts[0], first), kept(1, texts[1], none)}
				default:
					is(t, "Format", e, api.OK)
					want = [2]string{first, none}
				}
				if after < 3 {
					is(t, "Format", e, api.ErrDown)
				}
				if d.Lasts(0) != want[0] || d.Lasts(1) != want[1] {
					t.Errorf("cut at %d, %v: %q, %q", after, keep, d.Lasts(0)[:9], d.Lasts(1)[:9])
				}
			}
			d := holding(t, texts[0], texts[1])
			d.Set(disk.Arm{After: after})
			e := Format(d)
			if after > 2 {
				is(t, "Format", e, api.OK)
				continue
			}
			is(t, "Format", e, api.ErrIO)
			if d.Lasts(0) != texts[0] || d.Lasts(1) != texts[1] || d.Waits() != after%2 {
				t.Errorf("failed at %d: %d wait", after, d.Waits())
			}
		}
	}
}
