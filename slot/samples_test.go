package slot

import (
	"math/rand"
	"strings"
	"testing"

	"recto/api"
	"recto/disk"
)

func zeros(n int) string { return strings.Repeat("\x00", n) }

func fresh(t testing.TB, n int) *disk.Disk {
	t.Helper()
	d, e := disk.New(n)
	if e != api.OK {
		t.Fatal(e)
	}
	return d
}

// holding is a disk whose blocks 0 and 1 last as told.
func holding(t testing.TB, zero, one string) *disk.Disk {
	t.Helper()
	d := fresh(t, 4)
	is(t, "Write", d.Write(0, zero), api.OK)
	is(t, "Write", d.Write(1, one), api.OK)
	is(t, "Flush", d.Flush(), api.OK)
	return d
}

func is(t testing.TB, what string, e, want api.Errno) {
	t.Helper()
	if e != want {
		t.Errorf("%s: %v; want %v", what, e, want)
	}
}

func must(t testing.TB, s Slot) string {
	t.Helper()
	b, e := Block(s)
	if e != api.OK {
		t.Fatalf("Block(%v): %v", s, e)
	}
	return b
}

func chooses(t testing.TB, what string, d *disk.Disk, want Slot, block int) {
	t.Helper()
	if s, at, e := Choose(d); s != want || at != block || e != api.OK {
		t.Errorf("%s: Choose: %v, %d, %v; want %v, %d", what, s, at, e, want, block)
	}
}

// plainRight, plainBlock and plainRead are told without quill.
func plainRight(s Slot) bool {
	return s.Number >= 1 && s.Number <= 1<<40 && (s.Region == 0 || s.Region == 1) &&
		s.Bytes >= 0 && s.Bytes <= 65536 && s.Records >= 0 && s.Records <= 65536
}

func plainNumber(n int) string {
	digits := ""
	for ; n > 0; n >>= 8 {
		digits = string([]byte{byte(n)}) + digits
	}
	return string([]byte{byte(len(digits))}) + digits
}

func plainBlock(s Slot) string {
	b := "rcto" + plainNumber(s.Number) + plainNumber(s.Region) + plainNumber(s.Bytes) + plainNumber(s.Records)
	return b + zeros(256-len(b))
}

func plainRead(b string) (Slot, bool) {
	if len(b) != 256 {
		return Slot{}, false
	}
	var n [4]int
	at := 4
	for i := range n {
		size := int(b[at])
		if size > 6 {
			return Slot{}, false
		}
		for _, c := range []byte(b[at+1 : at+1+size]) {
			n[i] = n[i]<<8 | int(c)
		}
		at += 1 + size
	}
	s := Slot{n[0], n[1], n[2], n[3]}
	if !plainRight(s) || plainBlock(s)[:64] != b[:64] {
		return Slot{}, false
	}
	return s, true
}

// plainChoose is the slot that counts of two blocks' texts, and its block; -1, if there is none.
func plainChoose(zero, one string) (Slot, int) {
	a, is := plainRead(zero)
	b, too := plainRead(one)
	switch {
	case is && (!too || a.Number >= b.Number):
		return a, 0
	case too:
		return b, 1
	}
	return Slot{}, -1
}

// slots are some of each kind, at the least and the greatest of each number too.
func slots() []Slot {
	var all []Slot
	for _, number := range []int{1, 2, 255, 256, 65535, 65536, 1<<40 - 1, 1 << 40} {
		for region := range 2 {
			for _, bytes := range []int{0, 1, 255, 256, 65535, 65536} {
				for _, records := range []int{0, 1, 255, 256, 65535, 65536} {
					all = append(all, Slot{number, region, bytes, records})
				}
			}
		}
	}
	return all
}

// noSlots have one number that is too small or too great.
func noSlots() []Slot {
	var all []Slot
	for _, s := range []Slot{{1, 0, 0, 0}, {1 << 40, 1, 65536, 65536}, {300, 1, 2, 3}} {
		for _, n := range []int{-1 << 63, -1 << 40, -256, -1, 0, 1<<40 + 1, 1<<48 - 1, 1 << 48, 1<<63 - 1} {
			x := s
			x.Number = n
			all = append(all, x)
		}
		for _, n := range []int{-1 << 63, -256, -1, 2, 3, 256, 1 << 32, 1<<63 - 1} {
			x := s
			x.Region = n
			all = append(all, x)
		}
		for _, n := range []int{-1 << 63, -65536, -1, 65537, 1 << 24, 1 << 40, 1<<40 + 1, 1<<63 - 1} {
			x, y := s, s
			x.Bytes, y.Records = n, n
			all = append(all, x, y)
		}
	}
	return append(all, Slot{})
}

func anySlot(r *rand.Rand) Slot {
	return Slot{1 + r.Intn(1<<uint(1+r.Intn(40))), r.Intn(2), r.Intn(1 << uint(1+r.Intn(16))), r.Intn(1 << uint(1+r.Intn(16)))}
}
