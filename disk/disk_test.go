package disk

import (
	"math/rand"
	"slices"
	"strings"
	"testing"

	"recto/api"
)

func fresh(t testing.TB, blocks int) *Disk {
	t.Helper()
	d, e := New(blocks)
	if e != api.OK {
		t.Fatalf("New(%d): %v", blocks, e)
	}
	return d
}

func is(t testing.TB, what string, e, want api.Errno) {
	t.Helper()
	if e != want {
		t.Errorf("%s: %v; want %v", what, e, want)
	}
}

// lasts and reads hold blocks against letters of sectors.
func lasts(t testing.TB, d *Disk, i int, want string) {
	t.Helper()
	if s := show(d.Lasts(i)); s != want {
		t.Errorf("Lasts(%d): %s; want %s", i, s, want)
	}
}

func reads(t testing.TB, d *Disk, i int, want string) {
	t.Helper()
	if s, e := d.Read(i); show(s) != want || e != api.OK {
		t.Errorf("Read(%d): %s, %v; want %s", i, show(s), e, want)
	}
}

// The chapter's Functions: the sizes.
func TestSizes(t *testing.T) {
	if MaxBlocks != 128 || Sectors != 4 || SectorSize != 64 || BlockSize != 256 {
		t.Error(MaxBlocks, Sectors, SectorSize, BlockSize)
	}
}

// Promise 27.1: disks from 4 to MaxBlocks blocks, at first all 0.
func TestNew(t *testing.T) {
	for _, n := range []int{-1 << 63, -1, 0, 1, 3, 129, 1 << 40, 1<<63 - 1} {
		if d, e := New(n); d != nil || e != api.ErrArg {
			t.Errorf("New(%d): %v, %v", n, d, e)
		}
	}
	for _, n := range []int{4, 5, 127, 128} {
		d := fresh(t, n)
		if d.Blocks() != n || !d.Up() || d.Waits() != 0 {
			t.Errorf("New(%d): %d blocks, up %v, %d wait", n, d.Blocks(), d.Up(), d.Waits())
		}
		for i := range n {
			reads(t, d, i, "0000")
			lasts(t, d, i, "0000")
		}
	}
}

// Promise 27.1: which blocks there are, and of which size a text must be; what is not right changes nothing.
func TestNoSuchBlock(t *testing.T) {
	for _, blocks := range []int{4, MaxBlocks} {
		for _, down := range []bool{false, true} {
			d, p := fresh(t, blocks), newPlain(blocks)
			if down {
				d.Crash(nil)
				p.Crash(nil)
			}
			for _, i := range []int{-1 << 63, -1, blocks, blocks + 1, MaxBlocks + 1, 1<<63 - 1} {
				if s, e := d.Read(i); s != "" || e != api.ErrArg {
					t.Errorf("Read(%d): %d bytes, %v", i, len(s), e)
				}
				is(t, "Write", d.Write(i, full("a")), api.ErrArg)
				is(t, "Write of nothing", d.Write(i, ""), api.ErrArg)
				if s := d.Lasts(i); s != "" {
					t.Errorf("Lasts(%d): %d bytes", i, len(s))
				}
			}
			for _, n := range []int{0, 1, SectorSize, BlockSize - 1, BlockSize + 1, 2 * BlockSize, api.MaxBytes} {
				is(t, "Write of another size", d.Write(1, strings.Repeat("a", n)), api.ErrArg)
			}
			agree(t, "not right", d, p)
		}
	}
}

// Promise 27.1: the first and the last block are written and read, and no other one is changed by that.
func TestEachBlock(t *testing.T) {
	for _, blocks := range []int{4, 5, MaxBlocks} {
		for _, i := range []int{0, 1, blocks - 2, blocks - 1} {
			d, p := fresh(t, blocks), newPlain(blocks)
			is(t, "Write", d.Write(i, sectors("abcd")), p.Write(i, sectors("abcd")))
			agree(t, "written", d, p)
			is(t, "Flush", d.Flush(), p.Flush())
			agree(t, "flushed", d, p)
			lasts(t, d, i, "abcd")
			lasts(t, d, (i+1)%blocks, "0000")
		}
	}
}

// Promise 27.1: every byte of a text stands where it stood.
func TestEveryByte(t *testing.T) {
	d := fresh(t, 4)
	b := make([]byte, BlockSize)
	for i := range b {
		b[i] = byte(i)
	}
	is(t, "Write", d.Write(3, string(b)), api.OK)
	if s, _ := d.Read(3); s != string(b) {
		t.Errorf("Read: %q", s)
	}
	is(t, "Flush", d.Flush(), api.OK)
	if s := d.Lasts(3); s != string(b) {
		t.Errorf("Lasts: %q", s)
	}
}

// Promise 27.1: a write waits, and is read; behind Flush the last one of a block lasts.
func TestSeveralWrites(t *testing.T) {
	d := fresh(t, 4)
	is(t, "Flush of nothing", d.Flush(), api.OK)
	for i, x := range []string{"a", "b", "c"} {
		is(t, "Write", d.Write(1, full(x)), api.OK)
		reads(t, d, 1, strings.Repeat(x, 4))
		lasts(t, d, 1, "0000")
		if d.Waits() != i+1 {
			t.Errorf("%d wait", d.Waits())
		}
	}
	is(t, "Write", d.Write(2, full("d")), api.OK)
	reads(t, d, 1, "cccc")
	if d.Waits() != 4 {
		t.Errorf("%d wait", d.Waits())
	}
	is(t, "Flush", d.Flush(), api.OK)
	for i, want := range []string{"0000", "cccc", "dddd", "0000"} {
		lasts(t, d, i, want)
		reads(t, d, i, want)
	}
	if d.Waits() != 0 || !d.Up() {
		t.Errorf("%d wait, up %v", d.Waits(), d.Up())
	}
	// What was written once more reads as that, though it lasted already.
	is(t, "Write", d.Write(1, full("e")), api.OK)
	is(t, "Write", d.Write(1, full("c")), api.OK)
	reads(t, d, 1, "cccc")
	is(t, "Crash", d.Crash([]int{1, 0}), api.OK)
	lasts(t, d, 1, "eccc")
}

// Promises 27.1 and 27.2: a disk that is down.
func TestDown(t *testing.T) {
	d := fresh(t, 4)
	is(t, "Start of one that is up", d.Start(), api.ErrState)
	d.Write(1, full("a"))
	d.Flush()
	d.Write(1, full("b"))
	is(t, "Crash", d.Crash(nil), api.OK)
	if d.Up() || d.Waits() != 0 || d.Blocks() != 4 {
		t.Errorf("up %v, %d wait, %d blocks", d.Up(), d.Waits(), d.Blocks())
	}
	for i := range 4 {
		if s, e := d.Read(i); s != "" || e != api.ErrDown {
			t.Errorf("Read(%d): %d bytes, %v", i, len(s), e)
		}
		is(t, "Write", d.Write(i, full("c")), api.ErrDown)
	}
	is(t, "Flush", d.Flush(), api.ErrDown)
	is(t, "Set", d.Set(Arm{}), api.ErrDown)
	is(t, "Set of After below 0", d.Set(Arm{After: -1}), api.ErrArg)
	is(t, "Crash", d.Crash([]int{4, 4}), api.ErrDown)
	is(t, "Write of another size", d.Write(1, ""), api.ErrArg)
	lasts(t, d, 1, "aaaa")
	is(t, "Start", d.Start(), api.OK)
	is(t, "Start again", d.Start(), api.ErrState)
	if !d.Up() || d.Waits() != 0 {
		t.Errorf("up %v, %d wait", d.Up(), d.Waits())
	}
	// Neither the write nor the arm of a disk that was down is there.
	for i, want := range []string{"0000", "aaaa", "0000", "0000"} {
		reads(t, d, i, want)
	}
	is(t, "Write", d.Write(1, full("d")), api.OK)
	is(t, "Flush", d.Flush(), api.OK)
	lasts(t, d, 1, "dddd")
}

// Promise 27.2: how many sectors last; Keep shorter and longer than what waits, with counts below 0, 0, Sectors and above.
func TestCrash(t *testing.T) {
	for _, x := range []struct {
		keep []int
		one  string // block 1, where abcd lasted, and efgh waits, and behind that ijkl
		two  string // block 2, where mnop waits between them
	}{
		{nil, "abcd", "0000"},
		{[]int{}, "abcd", "0000"},
		{[]int{0}, "abcd", "0000"},
		{[]int{-1, -5, -1 << 63}, "abcd", "0000"},
		{[]int{1}, "ebcd", "0000"},
		{[]int{2}, "efcd", "0000"},
		{[]int{3}, "efgd", "0000"},
		{[]int{4}, "efgh", "0000"},
		{[]int{5}, "efgh", "0000"},
		{[]int{1<<63 - 1, 1 << 40}, "efgh", "mnop"},
		{[]int{0, 1}, "abcd", "m000"},
		{[]int{0, 2, 0}, "abcd", "mn00"},
		{[]int{0, 0, 1}, "ibcd", "0000"},
		{[]int{0, 0, 4}, "ijkl", "0000"},
		{[]int{2, 0, 1}, "ifcd", "0000"},
		{[]int{1, 3, 2}, "ijcd", "mno0"},
		{[]int{4, 4, 2}, "ijgh", "mnop"},
		{[]int{4, 4, 4}, "ijkl", "mnop"},
		{[]int{4, 4, 4, 4, 4}, "ijkl", "mnop"},
		{[]int{-1, 4, 9, 9}, "ijkl", "mnop"},
		{[]int{3, -1, 1}, "ifgd", "0000"},
	} {
		for _, by := range []string{"Crash", "a cut at Flush", "a cut at Write", "a cut at a write of that block"} {
			d := fresh(t, 4)
			d.Write(1, sectors("abcd"))
			d.Flush()
			d.Write(1, sectors("efgh"))
			d.Write(2, sectors("mnop"))
			d.Write(1, sectors("ijkl"))
			keep := slices.Clone(x.keep)
			if by != "Crash" {
				is(t, by, d.Set(Arm{Cut: true, Keep: keep}), api.OK)
			}
			switch by {
			case "Crash":
				is(t, by, d.Crash(keep), api.OK)
			case "a cut at Flush":
				is(t, by, d.Flush(), api.ErrDown)
			case "a cut at Write":
				is(t, by, d.Write(3, full("z")), api.ErrDown)
			default:
				is(t, by, d.Write(1, full("z")), api.ErrDown)
			}
			if !slices.Equal(keep, x.keep) {
				t.Errorf("%s: Keep %v became %v", by, x.keep, keep)
			}
			if d.Up() || d.Waits() != 0 {
				t.Errorf("%s: up %v, %d wait", by, d.Up(), d.Waits())
			}
			d.Start()
			for i, want := range []string{"0000", x.one, x.two, "0000"} {
				if s, e := d.Read(i); show(s) != want || show(d.Lasts(i)) != want || e != api.OK {
					t.Errorf("%s, %v, block %d: %s, lasts %s, %v; want %s", by, x.keep, i, show(s), show(d.Lasts(i)), e, want)
				}
			}
		}
	}
}

// Example 1.
func TestExample(t *testing.T) {
	d := fresh(t, 4)
	d.Write(1, full("a"))
	d.Flush()
	is(t, "Write", d.Write(1, full("b")), api.OK)
	is(t, "Crash", d.Crash([]int{2}), api.OK)
	is(t, "Start", d.Start(), api.OK)
	reads(t, d, 1, "bbaa")
}

// Promise 27.2: a crash with nothing that waits changes nothing that lasts.
func TestCrashOfNothing(t *testing.T) {
	for _, keep := range [][]int{nil, {0}, {4, 4}, {-1}} {
		d := fresh(t, 4)
		d.Write(0, sectors("abcd"))
		d.Flush()
		is(t, "Crash", d.Crash(keep), api.OK)
		is(t, "Start", d.Start(), api.OK)
		for i, want := range []string{"abcd", "0000", "0000", "0000"} {
			reads(t, d, i, want)
			lasts(t, d, i, want)
		}
	}
}

// Promises 27.1 and 27.2: a failure: that call is not done; of a Flush all that waits is gone; then the arm is gone.
func TestFailure(t *testing.T) {
	d := fresh(t, 4)
	d.Write(1, full("a"))
	d.Flush()
	d.Write(1, full("b"))
	is(t, "Set", d.Set(Arm{Keep: []int{4, 4}}), api.OK)
	is(t, "Write", d.Write(1, full("c")), api.ErrIO)
	reads(t, d, 1, "bbbb")
	lasts(t, d, 1, "aaaa")
	if !d.Up() || d.Waits() != 1 {
		t.Errorf("behind a Write: up %v, %d wait", d.Up(), d.Waits())
	}
	is(t, "Write", d.Write(2, full("d")), api.OK)
	is(t, "Set", d.Set(Arm{Keep: []int{4, 4}}), api.OK)
	is(t, "Flush", d.Flush(), api.ErrIO)
	reads(t, d, 1, "aaaa")
	reads(t, d, 2, "0000")
	lasts(t, d, 1, "aaaa")
	lasts(t, d, 2, "0000")
	if !d.Up() || d.Waits() != 0 {
		t.Errorf("behind a Flush: up %v, %d wait", d.Up(), d.Waits())
	}
	is(t, "Write", d.Write(2, full("e")), api.OK)
	is(t, "Flush", d.Flush(), api.OK)
	lasts(t, d, 2, "eeee")
}

// Promise 27.2: the call at which an arm goes off: calls that are not right, find the disk down or do not write are not counted.
func TestAfter(t *testing.T) {
	for after := range 6 {
		for _, cut := range []bool{false, true} {
			want := api.ErrIO
			if cut {
				want = api.ErrDown
			}
			d := fresh(t, 4)
			// What was called ahead of it is not counted.
			d.Write(0, full("z"))
			d.Flush()
			is(t, "Set", d.Set(Arm{After: after, Cut: cut}), api.OK)
			for i := range after {
				notCounted(t, d)
				if i%2 == 0 {
					is(t, "Write", d.Write(1, full("a")), api.OK)
				} else {
					is(t, "Flush", d.Flush(), api.OK)
				}
			}
			notCounted(t, d)
			if after%2 == 0 {
				is(t, "Write", d.Write(1, full("b")), want)
			} else {
				is(t, "Flush", d.Flush(), want)
			}
			if d.Up() == cut {
				t.Errorf("up %v", d.Up())
			}
			if cut {
				notCounted(t, d)
				is(t, "Start", d.Start(), api.OK)
			}
			// It went off: it is there no longer.
			for range 8 {
				is(t, "Write", d.Write(1, full("c")), api.OK)
				is(t, "Flush", d.Flush(), api.OK)
			}
			lasts(t, d, 1, "cccc")
		}
	}
}

func notCounted(t testing.TB, d *Disk) {
	t.Helper()
	down := api.OK
	if !d.Up() {
		down = api.ErrDown
	}
	is(t, "Write", d.Write(4, full("w")), api.ErrArg)
	is(t, "Write", d.Write(-1, full("w")), api.ErrArg)
	is(t, "Write", d.Write(1, full("w")[1:]), api.ErrArg)
	is(t, "Write", d.Write(1, full("w")+"w"), api.ErrArg)
	_, e := d.Read(1)
	is(t, "Read", e, down)
	_, e = d.Read(4)
	is(t, "Read", e, api.ErrArg)
	is(t, "Set", d.Set(Arm{After: -1}), api.ErrArg)
	if down == api.OK {
		is(t, "Start", d.Start(), api.ErrState)
	} else {
		is(t, "Write", d.Write(1, full("w")), api.ErrDown)
		is(t, "Flush", d.Flush(), api.ErrDown)
		is(t, "Set", d.Set(Arm{Cut: true}), api.ErrDown)
		is(t, "Crash", d.Crash([]int{4}), api.ErrDown)
	}
	d.Lasts(1)
	d.Waits()
	d.Blocks()
}

// Promise 27.2: an arm far off waits long.
func TestFarAfter(t *testing.T) {
	d := fresh(t, 4)
	is(t, "Set", d.Set(Arm{After: 1<<63 - 1}), api.OK)
	for range 1000 {
		is(t, "Flush", d.Flush(), api.OK)
	}
	is(t, "Set", d.Set(Arm{After: 1000}), api.OK)
	for range 1000 {
		is(t, "Flush", d.Flush(), api.OK)
	}
	is(t, "Flush", d.Flush(), api.ErrIO)
	is(t, "Flush", d.Flush(), api.OK)
}

// Promise 27.2: of two arms the later one is there; one that is not right, or finds the disk down, takes no other one's place.
func TestOneArm(t *testing.T) {
	d := fresh(t, 4)
	d.Set(Arm{After: 1, Cut: true, Keep: []int{4}})
	is(t, "Flush", d.Flush(), api.OK)
	is(t, "Set over another one", d.Set(Arm{After: 1}), api.OK)
	is(t, "Set of After below 0", d.Set(Arm{After: -1, Cut: true}), api.ErrArg)
	is(t, "Write", d.Write(1, full("a")), api.OK)
	is(t, "Flush", d.Flush(), api.ErrIO)
	is(t, "Flush", d.Flush(), api.OK)
	lasts(t, d, 1, "0000")

	d.Set(Arm{After: 0})
	is(t, "Set over another one", d.Set(Arm{Cut: true, Keep: []int{3}}), api.OK)
	is(t, "Write", d.Write(1, full("b")), api.ErrDown)
	lasts(t, d, 1, "0000")
}

// Promise 27.2: when the power goes there is no arm, whatever had it go.
func TestArmAheadOfCrash(t *testing.T) {
	for _, cut := range []bool{false, true} {
		d := fresh(t, 4)
		d.Set(Arm{After: 0, Cut: cut, Keep: []int{4}})
		is(t, "Crash", d.Crash(nil), api.OK)
		is(t, "Start", d.Start(), api.OK)
		is(t, "Write", d.Write(1, full("a")), api.OK)
		is(t, "Flush", d.Flush(), api.OK)
		lasts(t, d, 1, "aaaa")
	}
}

// Rule R3: an arm's Keep is the arm's own; what is handed in stays as it is, spare room too.
func TestKeepIsKept(t *testing.T) {
	room := []int{2, 3, 7, 7}
	d := fresh(t, 4)
	is(t, "Set", d.Set(Arm{After: 2, Cut: true, Keep: room[:2]}), api.OK)
	room[0], room[1] = 4, 4
	is(t, "Write", d.Write(1, sectors("abcd")), api.OK)
	room[0] = 0
	is(t, "Write", d.Write(2, sectors("efgh")), api.OK)
	is(t, "Flush", d.Flush(), api.ErrDown)
	lasts(t, d, 1, "ab00")
	lasts(t, d, 2, "efg0")
	if !slices.Equal(room, []int{0, 4, 7, 7}) {
		t.Errorf("Keep's room: %v", room)
	}

	// Behind its own end an arm's Keep has nothing, whatever stands in the spare room.
	d = fresh(t, 4)
	room = []int{1, 4, 4}
	d.Set(Arm{After: 2, Cut: true, Keep: room[:1]})
	d.Write(1, sectors("abcd"))
	d.Write(2, sectors("efgh"))
	is(t, "Flush", d.Flush(), api.ErrDown)
	lasts(t, d, 1, "a000")
	lasts(t, d, 2, "0000")
	d.Start()
	d.Write(1, sectors("ijkl"))
	d.Write(2, sectors("mnop"))
	is(t, "Crash", d.Crash(room[:1]), api.OK)
	lasts(t, d, 1, "i000")
	lasts(t, d, 2, "0000")
	if !slices.Equal(room, []int{1, 4, 4}) {
		t.Errorf("Keep's room: %v", room)
	}
}

// Rule R3: two disks share nothing, and what was handed out stays as it is.
func TestHandedOut(t *testing.T) {
	d, other := fresh(t, 4), fresh(t, 4)
	d.Write(1, full("a"))
	s, _ := d.Read(1)
	d.Flush()
	z := d.Lasts(1)
	d.Write(1, full("b"))
	d.Flush()
	if s != full("a") || z != full("a") {
		t.Errorf("handed out: %s, %s", show(s), show(z))
	}
	agree(t, "another disk", other, newPlain(4))
}

// The chapter's Promises: a nil disk; a disk that New did not make has no blocks, and is down.
func TestNil(t *testing.T) {
	for _, d := range []*Disk{nil, {}} {
		for _, i := range []int{-1, 0, 1, 3, 128} {
			if s, e := d.Read(i); s != "" || e != api.ErrArg {
				t.Errorf("Read(%d): %d bytes, %v", i, len(s), e)
			}
			is(t, "Write", d.Write(i, full("a")), api.ErrArg)
			is(t, "Write", d.Write(i, ""), api.ErrArg)
			if s := d.Lasts(i); s != "" {
				t.Errorf("Lasts(%d): %d bytes", i, len(s))
			}
		}
		is(t, "Flush", d.Flush(), api.ErrDown)
		is(t, "Set", d.Set(Arm{After: 1}), api.ErrDown)
		is(t, "Set", d.Set(Arm{After: -1}), api.ErrArg)
		is(t, "Crash", d.Crash([]int{1}), api.ErrDown)
		if d.Blocks() != 0 || d.Up() || d.Waits() != 0 {
			t.Errorf("%d blocks, up %v, %d wait", d.Blocks(), d.Up(), d.Waits())
		}
	}
	var d *Disk
	is(t, "Start", d.Start(), api.ErrState)
}

// Promises 27.1 and 27.2: every row of a few calls, of all kinds, held against the plain disk.
func TestSmallRows(t *testing.T) {
	steps := []step{
		writing(1, sectors("abcd")), writing(1, sectors("efgh")), writing(3, sectors("ijkl")), writing(4, full("a")),
		flush(), start(), crash(), crash(2, 1), failAt(0), failAt(1), cutAt(0, 3), cutAt(1, 1, 9),
	}
	most := 5
	if testing.Short() {
		most = 4
	}
	var row []int
	var walk func()
	walk = func() {
		d, p := fresh(t, 4), disks(newPlain(4))
		what := ""
		for _, i := range row {
			what += steps[i].what + " "
			if e, want := steps[i].call(d), steps[i].call(p); e != want {
				t.Fatalf("%s: %v; want %v", what, e, want)
			}
		}
		agree(t, what, d, p)
		if len(row) == most {
			return
		}
		for i := range steps {
			row = append(row, i)
			walk()
			row = row[:len(row)-1]
		}
	}
	walk()
}

// Promises 27.1 and 27.2: long rows of calls, held against the plain disk behind each.
func TestLongRows(t *testing.T) {
	for seed := range int64(300) {
		r := rand.New(rand.NewSource(seed))
		blocks := 4 + r.Intn(6)
		d, p := fresh(t, blocks), disks(newPlain(blocks))
		for range 200 {
			s := anyStep(r, blocks)
			if e, want := s.call(d), s.call(p); e != want {
				t.Fatalf("seed %d, %s: %v; want %v", seed, s.what, e, want)
			}
			agree(t, s.what, d, p)
		}
	}
}

// Promise 27.3: what was flushed lasts, whatever is called, until it is written again.
func TestFlushedLasts(t *testing.T) {
	for seed := range int64(200) {
		r := rand.New(rand.NewSource(seed))
		d := fresh(t, 9)
		want := anyText(r)
		is(t, "Write", d.Write(8, want), api.OK)
		is(t, "Flush", d.Flush(), api.OK)
		for range 200 {
			anyStep(r, 5).call(d) // none writes block 8
			if d.Lasts(8) != want {
				t.Fatalf("seed %d: it lasts no more", seed)
			}
			if s, e := d.Read(8); d.Up() && (s != want || e != api.OK) {
				t.Fatalf("seed %d: it reads as another, %v", seed, e)
			}
		}
	}
}

// Promise 27.4: behind a crash each sector is as it was, or as one of the writes that waited has it.
func TestSectorsAreWhole(t *testing.T) {
	for seed := range int64(2000) {
		r := rand.New(rand.NewSource(seed))
		d := fresh(t, 4)
		could := make([][]string, 4) // what lasts of a block, and what waits for it
		for i := range could {
			d.Write(i, anyText(r))
		}
		d.Flush()
		for i := range could {
			could[i] = []string{d.Lasts(i)}
		}
		var keep []int
		for range r.Intn(9) {
			i, s := r.Intn(4), anyText(r)
			is(t, "Write", d.Write(i, s), api.OK)
			could[i] = append(could[i], s)
			keep = append(keep, r.Intn(Sectors+3)-1)
		}
		if seed%2 == 0 {
			is(t, "Crash", d.Crash(keep), api.OK)
		} else {
			d.Set(Arm{Cut: true, Keep: keep})
			is(t, "Flush", d.Flush(), api.ErrDown)
		}
		for i, texts := range could {
			for at := 0; at < BlockSize; at += SectorSize {
				sector := d.Lasts(i)[at : at+SectorSize]
				if !slices.ContainsFunc(texts, func(s string) bool { return s[at:at+SectorSize] == sector }) {
					t.Fatalf("seed %d: block %d, byte %d: a sector that no one wrote", seed, i, at)
				}
			}
		}
	}
}

// Rule R6 and the bound: very many writes that wait are read and done soon.
func TestManyWaits(t *testing.T) {
	const many = 100000
	d := fresh(t, MaxBlocks)
	keep := make([]int, many)
	for i := range many {
		is(t, "Write", d.Write(i%100, full(string(rune('a'+i%26)))), api.OK)
		reads(t, d, 127, "0000")
		keep[i] = Sectors
	}
	if d.Waits() != many {
		t.Errorf("%d wait", d.Waits())
	}
	reads(t, d, 99, strings.Repeat(string(rune('a'+(many-1)%26)), 4))
	is(t, "Crash", d.Crash(keep[:many-1]), api.OK)
	lasts(t, d, 98, strings.Repeat(string(rune('a'+(many-2)%26)), 4))
	lasts(t, d, 99, strings.Repeat(string(rune('a'+(many-101)%26)), 4))
}
