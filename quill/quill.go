// Package quill is layer 1: see shared/doc/01-quill.md.
package quill

import (
	"strings"

	"recto/api"
)

const (
	base      = 256
	maxDigits = 6    // as many as MaxInt has to the base
	maxTexts  = 1000 // of a list
)

// Num is a number's bytes.
func Num(n int) (string, api.Errno) {
	if n < 0 || n > api.MaxInt {
		return "", api.ErrArg
	}
	return numBytes(n), api.OK
}

// Text is a text's bytes.
func Text(s string) (string, api.Errno) {
	if len(s) > api.MaxBytes {
		return "", api.ErrLong
	}
	return textBytes(s), api.OK
}

// List is a list's bytes.
func List(l []string) (string, api.Errno) {
	if len(l) > maxTexts {
		return "", api.ErrLong
	}
	for _, s := range l {
		if len(s) > api.MaxBytes {
			return "", api.ErrLong
		}
	}
	return listBytes(l...), api.OK
}

// TakeNum takes a number off.
func TakeNum(b string) (int, string, api.Errno) {
	if b == "" {
		return 0, "", api.ErrForm
	}
	count, digits := int(b[0]), b[1:]
	if count > maxDigits || count > len(digits) {
		return 0, "", api.ErrForm
	}
	// A nought ahead would give one number two forms.
	if count > 0 && digits[0] == 0 {
		return 0, "", api.ErrForm
	}
	n := 0
	for i := range count {
		n = n*base + int(digits[i])
	}
	// Six digits reach beyond MaxInt.
	if n > api.MaxInt {
		return 0, "", api.ErrForm
	}
	return n, digits[count:], api.OK
}

// TakeText takes a text off.
func TakeText(b string) (string, string, api.Errno) {
	size, rest, e := TakeNum(b)
	if e != api.OK || size > api.MaxBytes || size > len(rest) {
		return "", "", api.ErrForm
	}
	return rest[:size], rest[size:], api.OK
}

// TakeList takes a list off.
func TakeList(b string) ([]string, string, api.Errno) {
	count, rest, e := TakeNum(b)
	if e != api.OK || count > maxTexts {
		return nil, "", api.ErrForm
	}
	var l []string
	for range count {
		s, behind, e := TakeText(rest)
		if e != api.OK {
			return nil, "", api.ErrForm
		}
		l = append(l, s)
		rest = behind
	}
	return l, rest, api.OK
}

// numBytes, textBytes and listBytes take what their callers have found to be within the limits.
func numBytes(n int) string {
	var b [1 + maxDigits]byte
	at := len(b)
	for ; n > 0; n /= base {
		at--
		b[at] = byte(n % base)
	}
	count := len(b) - at
	at--
	b[at] = byte(count)
	return string(b[at:])
}

func textBytes(s string) string {
	return numBytes(len(s)) + s
}

func listBytes(texts ...string) string {
	var b strings.Builder
	b.WriteString(numBytes(len(texts)))
	for _, s := range texts {
		b.WriteString(textBytes(s))
	}
	return b.String()
}
