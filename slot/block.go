package slot

import (
	"strings"

	"recto/api"
	"recto/disk"
	"recto/quill"
)

const (
	blocks = 2 // that hold slots
	begin  = "rcto"
	many   = 4 // numbers of a slot
)

// numbers are a slot's numbers, in the order in which its block has them; slotOf takes them back.
func numbers(s Slot) [many]int {
	return [many]int{s.Number, s.Region, s.Bytes, s.Records}
}

func slotOf(n [many]int) Slot {
	return Slot{Number: n[0], Region: n[1], Bytes: n[2], Records: n[3]}
}

// right tells whether s is a slot.
func right(s Slot) bool {
	least := [many]int{1, 0, 0, 0}
	most := [many]int{api.MaxInt, 1, api.MaxBytes, api.MaxBytes}
	for i, n := range numbers(s) {
		if n < least[i] || n > most[i] {
			return false
		}
	}
	return true
}

// block takes a slot that is right, whose numbers quill can write.
func block(s Slot) string {
	b := begin
	for _, n := range numbers(s) {
		digits, _ := quill.Num(n)
		b += digits
	}
	return padded(b)
}

func padded(b string) string {
	return b + strings.Repeat("\x00", disk.BlockSize-len(b))
}

// take reads a slot's numbers, whatever they are, and whatever stands behind them.
func take(b string) (Slot, bool) {
	rest, ok := strings.CutPrefix(b, begin)
	if !ok {
		return Slot{}, false
	}
	var ns [many]int
	for i := range ns {
		n, behind, e := quill.TakeNum(rest)
		if e != api.OK {
			return Slot{}, false
		}
		ns[i], rest = n, behind
	}
	return slotOf(ns), true
}
