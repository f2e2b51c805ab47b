// Package utf is layer 2: see shared/doc/02-utf.md.
package utf

import (
	"strings"

	"recto/api"
)

// Stranger is the character that stands for none.
const Stranger = 65533

const (
	last      = 1114111
	noneFrom  = 55296
	noneTo    = 57343
	tail      = 128 // what a byte behind the first is at least
	tailStep  = 64  // how many values it has
	mostBytes = 4
)

// By how many bytes a character has: what its first byte is at least, and the number below which it is.
var (
	heads = [1 + mostBytes]int{0, 0, 192, 224, 240}
	ends  = [1 + mostBytes]int{0, 128, 2048, 65536, last + 1}
)

// Bytes are a character's bytes.
func Bytes(c int) string {
	if !isCharacter(c) {
		c = Stranger
	}
	n := size(c)
	b := make([]byte, n)
	for i := n - 1; i > 0; i-- {
		b[i] = byte(tail + c%tailStep)
		c /= tailStep
	}
	b[0] = byte(heads[n] + c)
	return string(b)
}

// First is the first character, and how many bytes it has.
func First(s string) (int, int) {
	if s == "" {
		return 0, 0
	}
	n := told(s[0])
	if n > len(s) {
		return Stranger, 1
	}
	c := int(s[0]) - heads[n]
	for i := 1; i < n; i++ {
		low := int(s[i]) - tail
		if low < 0 || low >= tailStep {
			return Stranger, 1
		}
		c = c*tailStep + low
	}
	// Bytes may tell a number that is written in fewer of them; and a byte from 128 to 191, taken as a first one, tells a number that is written in more.
	if !isCharacter(c) || size(c) != n {
		return Stranger, 1
	}
	return c, n
}

// Right tells whether all is right bytes.
func Right(s string) bool {
	for s != "" {
		c, n := First(s)
		if isWrong(c, n) {
			return false
		}
		s = s[n:]
	}
	return true
}

// Clean is a text with strangers for what is none.
func Clean(s string) string {
	stranger := Bytes(Stranger)
	var b strings.Builder
	for s != "" {
		c, n := First(s)
		if isWrong(c, n) {
			b.WriteString(stranger)
		} else {
			b.WriteString(s[:n])
		}
		s = s[n:]
	}
	return b.String()
}

// Count is how many characters it has.
func Count(s string) int {
	count := 0
	for s != "" {
		_, n := First(s)
		s = s[n:]
		count++
	}
	return count
}

// At is a character of a text.
func At(s string, n int) (int, api.Errno) {
	if n < 0 {
		return 0, api.ErrArg
	}
	for s != "" {
		c, taken := First(s)
		if n == 0 {
			return c, api.OK
		}
		s = s[taken:]
		n--
	}
	return 0, api.ErrNone
}

func isCharacter(c int) bool {
	return c >= 0 && c <= last && (c < noneFrom || c > noneTo)
}

// isWrong tells what First answers of a byte that is no character's: the stranger's own bytes are three.
func isWrong(c, n int) bool {
	return c == Stranger && n == 1
}

// size is how many bytes a character has.
func size(c int) int {
	n := 1
	for c >= ends[n] {
		n++
	}
	return n
}

// told is how many bytes there are, if a character begins with this one.
func told(b byte) int {
	n := mostBytes
	for int(b) < heads[n] {
		n--
	}
	return n
}
