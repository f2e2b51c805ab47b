package slot

import (
	"math/rand"
	"strings"
	"testing"

	"recto/api"
	"recto/disk"
)

// Promise 28.1: a slot's block.
func TestBlock(t *testing.T) {
	for _, x := range []struct {
		s    Slot
		want string
	}{
		{Slot{Number: 1}, "rcto\x01\x01\x00\x00\x00"},
		{Slot{2, 1, 0, 0}, "rcto\x01\x02\x01\x01\x00\x00"},
		{Slot{300, 1, 2, 0}, "rcto\x02\x01\x2c\x01\x01\x01\x02\x00"},
		{Slot{255, 0, 256, 65535}, "rcto\x01\xff\x00\x02\x01\x00\x02\xff\xff"},
		{Slot{api.MaxInt, 1, api.MaxBytes, api.MaxBytes}, "rcto\x06\x01\x00\x00\x00\x00\x00\x01\x01\x03\x01\x00\x00\x03\x01\x00\x00"},
	} {
		want := x.want + zeros(disk.BlockSize-len(x.want))
		if b, e := Block(x.s); b != want || e != api.OK {
			t.Errorf("Block(%v): %q, %v", x.s, b, e)
		}
		if s, ok := Read(want); s != x.s || !ok {
			t.Errorf("Read of %v: %v, %v", x.s, s, ok)
		}
	}
}

// Promise 28.1: slots at the least and the greatest of each number, and what is read of their blocks.
func TestBlocks(t *testing.T) {
	seen := map[string]bool{}
	for _, s := range slots() {
		b, e := Block(s)
		if b != plainBlock(s) || e != api.OK || seen[b] {
			t.Errorf("Block(%v): %q, %v", s, b, e)
		}
		seen[b] = true
		if z, ok := Read(b); z != s || !ok {
			t.Errorf("Read of %v: %v, %v", s, z, ok)
		}
	}
	r := rand.New(rand.NewSource(1))
	for range 20000 {
		s := anySlot(r)
		if b := must(t, s); b != plainBlock(s) {
			t.Fatalf("Block(%v): %q", s, b)
		}
	}
}

// Promise 28.1: what is no slot has no block, and none is read of what its block would be.
func TestNoSlot(t *testing.T) {
	for _, s := range noSlots() {
		if b, e := Block(s); b != "" || e != api.ErrArg {
			t.Errorf("Block(%v): %q, %v", s, b, e)
		}
		if s.Number < 0 || s.Region < 0 || s.Bytes < 0 || s.Records < 0 {
			continue
		}
		if z, ok := Read(plainBlock(s)); z != (Slot{}) || ok {
			t.Errorf("Read of %v: %v, %v", s, z, ok)
		}
	}
}

// Promise 28.1: texts of another size than a block's.
func TestReadSize(t *testing.T) {
	b := must(t, Slot{300, 1, 2, 3})
	for n := range disk.BlockSize {
		if s, ok := Read(b[:n]); s != (Slot{}) || ok {
			t.Errorf("%d bytes: %v, %v", n, s, ok)
		}
	}
	for _, more := range []string{"\x00", "a", zeros(64), zeros(disk.BlockSize), b} {
		if s, ok := Read(b + more); s != (Slot{}) || ok {
			t.Errorf("%d bytes: %v, %v", len(b+more), s, ok)
		}
	}
}

// Promise 28.1: blocks that are one byte off a slot's: each byte, as each other one.
func TestReadOneByteOff(t *testing.T) {
	other := 0 // slots that are one byte off another one
	for _, s := range []Slot{{Number: 1}, {300, 1, 2, 3}, {api.MaxInt, 0, api.MaxBytes, 1}, {65536, 1, 256, 0}} {
		b := []byte(must(t, s))
		for i, was := range b {
			for c := range 256 {
				b[i] = byte(c)
				z, ok := Read(string(b))
				want, is := plainRead(string(b))
				if z != want || ok != is {
					t.Errorf("%v, byte %d as %d: %v, %v; want %v, %v", s, i, c, z, ok, want, is)
				}
				if i >= disk.SectorSize && (z != s || !ok) {
					t.Errorf("%v, byte %d, behind the first sector, as %d: %v, %v", s, i, c, z, ok)
				}
				if ok && z != s {
					other++
				}
			}
			b[i] = was
		}
	}
	if other == 0 {
		t.Error("none is one byte off another one")
	}
}

// Promise 28.1: what stands behind the first sector is nothing to Read; the last byte of it is, and the first one.
func TestReadFirstSector(t *testing.T) {
	s := Slot{300, 1, 2, 3}
	b := must(t, s)
	for _, behind := range []string{strings.Repeat("x", 192), zeros(191) + "x", "x" + zeros(191), b[:192]} {
		if z, ok := Read(b[:64] + behind); z != s || !ok {
			t.Errorf("behind it %q: %v, %v", behind[:4], z, ok)
		}
	}
	for _, wrong := range []string{
		b[:63] + "x" + b[64:],
		"s" + b[1:],
		"Rcto" + b[4:],
		zeros(4) + b[4:],
		b[1:] + "\x00",
		"\x00" + b[:255],
		zeros(256),
		strings.Repeat("\xff", 256),
		strings.Repeat("rcto", 64),
		"rcto" + zeros(252), // of Number 0
		b[64:] + b[:64],
	} {
		if z, ok := Read(wrong); z != (Slot{}) || ok {
			t.Errorf("%q: %v, %v", wrong[:24], z, ok)
		}
	}
}

// Promise 28.1: numbers that stand in more bytes than they need, or in more than a number has, or that are too great.
func TestReadOtherNumbers(t *testing.T) {
	for _, numbers := range []string{
		"\x02\x00\x01\x00\x00\x00",
		"\x06\x00\x00\x00\x00\x00\x01\x00\x00\x00",
		"\x01\x01\x01\x00\x00\x00",
		"\x01\x01\x02\x00\x01\x00\x00",
		"\x01\x01\x00\x01\x00\x00",
		"\x01\x01\x00\x00\x01\x00",
		"\x01\x01\x00\x00\x03\x00\x00\x07",
		"\x01\x01\x01\x02\x00\x00",
		"\x01\x01\x00\x03\x01\x00\x01\x00",
		"\x01\x01\x00\x00\x03\x01\x00\x01",
		"\x06\x01\x00\x00\x00\x00\x01\x00\x00\x00",
		"\x07\x00\x01\x00\x00\x00\x00\x00\x00\x00\x00",
		"\x08\x01\x00\x00\x00\x00\x00\x00\x01\x00\x00\x00",
		"\xff\x01\x00\x00\x00",
		"\x01\x01\x00\x00\xff",
		"\x01\x01\x00\x00\x00\x01",
		"\x01\x01\x00\x00\x00\x00\x00\x00x",
	} {
		b := "rcto" + numbers
		b += zeros(disk.BlockSize - len(b))
		if s, ok := Read(b); s != (Slot{}) || ok {
			t.Errorf("%q: %v, %v", numbers, s, ok)
		}
	}
}

// Promise 28.1: any bytes behind the four that begin a slot's block.
func TestReadAnyBytes(t *testing.T) {
	r := rand.New(rand.NewSource(2))
	found := 0
	for range 200000 {
		b := []byte("rcto" + zeros(252))
		for i := range r.Intn(12) {
			b[4+i] = byte(r.Intn(3))
		}
		s, ok := Read(string(b))
		if want, is := plainRead(string(b)); s != want || ok != is {
			t.Fatalf("%q: %v, %v; want %v, %v", b[:20], s, ok, want, is)
		}
		if ok {
			found++
		}
	}
	if found < 100 {
		t.Errorf("%d slots alone", found)
	}
}

// torn are a slot's block, and blocks that are nearly one.
func torn(t testing.TB, s Slot) []string {
	b := must(t, s)
	return []string{b, b[:64] + strings.Repeat("x", 192), b[:63] + "x" + b[64:], "x" + b[1:]}
}

// Promise 28.2: which slot counts: of every two blocks.
func TestChoose(t *testing.T) {
	texts := []string{zeros(disk.BlockSize), strings.Repeat("\xff", disk.BlockSize)}
	for _, s := range []Slot{{1, 0, 0, 0}, {2, 1, 5, 6}, {2, 0, 7, 8}, {3, 0, 0, 0}, {api.MaxInt, 1, 1, 1}, {api.MaxInt, 0, 2, 2}} {
		texts = append(texts, torn(t, s)...)
	}
	for _, zero := range texts {
		for _, one := range texts {
			d := holding(t, zero, one)
			want, at := plainChoose(zero, one)
			if at >= 0 {
				chooses(t, "two blocks", d, want, at)
			} else if s, at, e := Choose(d); s != (Slot{}) || at != 0 || e != api.ErrLost {
				t.Errorf("%q, %q: %v, %d, %v", zero[:12], one[:12], s, at, e)
			}
			if d.Lasts(0) != zero || d.Lasts(1) != one || d.Waits() != 0 || !d.Up() {
				t.Error("Choose changed the disk")
			}
		}
	}
}

// Promise 28.2: of equal Numbers, block 0's; a greater one, wherever it is; one that waits too; other blocks are nothing to it.
func TestChooseByHand(t *testing.T) {
	a, b := Slot{Number: 5, Bytes: 1}, Slot{Number: 5, Bytes: 2}
	less, none := Slot{Number: 4, Region: 1}, zeros(disk.BlockSize)
	chooses(t, "equal", holding(t, must(t, a), must(t, b)), a, 0)
	chooses(t, "equal, turned about", holding(t, must(t, b), must(t, a)), b, 0)
	chooses(t, "less in 1", holding(t, must(t, a), must(t, less)), a, 0)
	chooses(t, "less in 0", holding(t, must(t, less), must(t, a)), a, 1)
	chooses(t, "alone in 0", holding(t, must(t, less), none), less, 0)
	chooses(t, "alone in 1", holding(t, none, must(t, less)), less, 1)

	d := holding(t, must(t, a), none)
	d.Write(2, must(t, Slot{Number: 9}))
	chooses(t, "another block", d, a, 0)
	d.Write(1, must(t, Slot{Number: 6}))
	chooses(t, "one that waits", d, Slot{Number: 6}, 1)
	d.Crash(nil)
	if s, at, e := Choose(d); s != (Slot{}) || at != 0 || e != api.ErrDown {
		t.Errorf("a disk that is down: %v, %d, %v", s, at, e)
	}
	d.Start()
	chooses(t, "it waited alone", d, a, 0)
}

// Promise 28.2: a disk of zeros is no one's.
func TestFreshDisk(t *testing.T) {
	d := fresh(t, disk.MaxBlocks)
	if s, at, e := Choose(d); s != (Slot{}) || at != 0 || e != api.ErrLost {
		t.Errorf("Choose: %v, %d, %v", s, at, e)
	}
	is(t, "Put", Put(d, Slot{}), api.ErrLost)
	is(t, "Put of no slot", Put(d, Slot{Region: 2}), api.ErrLost)
	if d.Waits() != 0 {
		t.Errorf("%d wait", d.Waits())
	}
	is(t, "Format", Format(d), api.OK)
	chooses(t, "Format", d, Slot{Number: 1}, 0)
}

// Example 1; promise 28.2: slots are put by turns, each of the next Number, whatever theirs is.
func TestPut(t *testing.T) {
	d := fresh(t, 4)
	is(t, "Format", Format(d), api.OK)
	is(t, "Put", Put(d, Slot{Region: 1}), api.OK)
	chooses(t, "Put", d, Slot{Number: 2, Region: 1}, 1)
	for i, s := range []Slot{{0, 0, 1, 2}, {2, 1, 3, 4}, {-1, 0, 0, 0}, {99, 1, 65536, 65536}, {1 << 50, 0, 0, 1}, {1<<63 - 1, 0, 65536, 0}} {
		before, at, _ := Choose(d)
		stays := d.Lasts(at)
		is(t, "Put", Put(d, s), api.OK)
		s.Number = i + 3
		chooses(t, "Put", d, s, i%2)
		if d.Waits() != 0 || d.Lasts(i%2) != plainBlock(s) || d.Lasts(at) != stays || s.Number != before.Number+1 {
			t.Errorf("%v: %d wait, %q", s, d.Waits(), d.Lasts(i % 2)[:20])
		}
	}
	for i := 2; i < 4; i++ {
		if d.Lasts(i) != zeros(disk.BlockSize) {
			t.Errorf("block %d was written", i)
		}
	}
}

// Promise 28.2: Put of what is no slot changes nothing; so does one that has no next Number.
func TestPutNoSlot(t *testing.T) {
	d := holding(t, must(t, Slot{Number: 4}), must(t, Slot{Number: 3}))
	d.Write(2, strings.Repeat("w", disk.BlockSize))
	d.Set(disk.Arm{After: 2})
	for _, s := range noSlots() {
		s.Number = 7
		if plainRight(s) {
			continue
		}
		is(t, "Put", Put(d, s), api.ErrArg)
	}
	chooses(t, "no slots", d, Slot{Number: 4}, 0)
	if d.Waits() != 1 {
		t.Errorf("%d wait", d.Waits())
	}
	// The arm has counted nothing, then Write and Flush.
	is(t, "Put", Put(d, Slot{Number: 7}), api.OK)
	chooses(t, "a slot", d, Slot{Number: 5}, 1)
	is(t, "Put", Put(d, Slot{}), api.ErrIO)

	for at := range 2 {
		texts := [2]string{zeros(disk.BlockSize), zeros(disk.BlockSize)}
		texts[at] = must(t, Slot{Number: api.MaxInt - 1, Bytes: 5})
		d := holding(t, texts[0], texts[1])
		is(t, "Put of MaxInt", Put(d, Slot{Number: 1, Bytes: 6}), api.OK)
		chooses(t, "MaxInt", d, Slot{Number: api.MaxInt, Bytes: 6}, 1-at)
		for _, n := range []int{0, 1, api.MaxInt, api.MaxInt + 1} {
			is(t, "Put behind MaxInt", Put(d, Slot{Number: n}), api.ErrArg)
		}
		chooses(t, "MaxInt", d, Slot{Number: api.MaxInt, Bytes: 6}, 1-at)
		if d.Waits() != 0 {
			t.Errorf("%d wait", d.Waits())
		}
	}
}

// Promise 28.2: the disk's errors are told first: a disk that is down, and one that holds no slot.
func TestPutOrder(t *testing.T) {
	d := holding(t, must(t, Slot{Number: api.MaxInt}), zeros(disk.BlockSize))
	d.Crash(nil)
	is(t, "Put", Put(d, Slot{}), api.ErrDown)
	is(t, "Put of no slot", Put(d, Slot{Bytes: -1}), api.ErrDown)
	is(t, "Format", Format(d), api.ErrDown)
	if d.Up() {
		t.Error("it is up")
	}
}

// Promise 28.2: a disk that holds slots is made ready again; what else it holds stays.
func TestFormat(t *testing.T) {
	for _, blocks := range []int{4, 5, disk.MaxBlocks} {
		d := fresh(t, blocks)
		for i := range blocks {
			d.Write(i, must(t, Slot{Number: 9 + i, Bytes: i}))
		}
		is(t, "Format", Format(d), api.OK)
		chooses(t, "Format", d, Slot{Number: 1}, 0)
		if d.Lasts(0) != plainBlock(Slot{Number: 1}) || d.Lasts(1) != zeros(disk.BlockSize) || d.Waits() != 0 {
			t.Errorf("%q, %q, %d wait", d.Lasts(0)[:12], d.Lasts(1)[:12], d.Waits())
		}
		for i := 2; i < blocks; i++ {
			if d.Lasts(i) != plainBlock(Slot{Number: 9 + i, Bytes: i}) {
				t.Errorf("block %d became another", i)
			}
		}
	}
}

// A nil disk: disk's errors.
func TestNil(t *testing.T) {
	for _, d := range []*disk.Disk{nil, {}} {
		if s, at, e := Choose(d); s != (Slot{}) || at != 0 || e != api.ErrArg {
			t.Errorf("Choose: %v, %d, %v", s, at, e)
		}
		is(t, "Put", Put(d, Slot{}), api.ErrArg)
		is(t, "Put of no slot", Put(d, Slot{Region: 7}), api.ErrArg)
		is(t, "Format", Format(d), api.ErrArg)
	}
}
