package quill

import (
	"slices"
	"strings"
	"testing"

	"recto/api"
)

func long(n int) string { return strings.Repeat("x", n) }

func texts(n int) []string { return slices.Repeat([]string{"t"}, n) }

// numbers has both ends of every count of digits.
var numbers = []int{
	0, 1, 2, 127, 128, 255,
	256, 257, 1000, 65535,
	65536, 65537, 1<<24 - 1,
	1 << 24, 1<<32 - 1,
	1 << 32, 1<<40 - 1,
	api.MaxInt,
}

// Promise 1.1: a number's bytes.
func TestNum(t *testing.T) {
	for _, c := range []struct {
		n    int
		want string
	}{
		{0, "\x00"},
		{1, "\x01\x01"},
		{127, "\x01\x7f"},
		{128, "\x01\x80"},
		{255, "\x01\xff"},
		{256, "\x02\x01\x00"},
		{65535, "\x02\xff\xff"},
		{65536, "\x03\x01\x00\x00"},
		{1<<24 - 1, "\x03\xff\xff\xff"},
		{1 << 24, "\x04\x01\x00\x00\x00"},
		{0x01020304, "\x04\x01\x02\x03\x04"},
		{1<<32 - 1, "\x04\xff\xff\xff\xff"},
		{1 << 32, "\x05\x01\x00\x00\x00\x00"},
		{1<<40 - 1, "\x05\xff\xff\xff\xff\xff"},
		{api.MaxInt, "\x06\x01\x00\x00\x00\x00\x00"},
	} {
		if b, e := Num(c.n); b != c.want || e != api.OK {
			t.Errorf("Num(%d): %q, %v; want %q", c.n, b, e, c.want)
		}
	}
}

// Promise 1.1: what is no number.
func TestNumOutOfRange(t *testing.T) {
	for _, n := range []int{-1, -255, -1 << 63, api.MaxInt + 1, 1<<48 - 1, 1 << 48, 1<<63 - 1} {
		if b, e := Num(n); b != "" || e != api.ErrArg {
			t.Errorf("Num(%d): %q, %v", n, b, e)
		}
	}
}

// Promise 1.1: a text's bytes, up to MaxBytes of them.
func TestText(t *testing.T) {
	for _, c := range []struct{ s, want string }{
		{"", "\x00"},
		{"ab", "\x01\x02ab"},
		{"\x00", "\x01\x01\x00"},
		{"\xff\xc3", "\x01\x02\xff\xc3"},
		{long(255), "\x01\xff" + long(255)},
		{long(256), "\x02\x01\x00" + long(256)},
		{long(api.MaxBytes - 1), "\x02\xff\xff" + long(api.MaxBytes-1)},
		{long(api.MaxBytes), "\x03\x01\x00\x00" + long(api.MaxBytes)},
	} {
		if b, e := Text(c.s); b != c.want || e != api.OK {
			t.Errorf("Text of %d bytes: %d bytes, %v", len(c.s), len(b), e)
		}
	}
	if b, e := Text(long(api.MaxBytes + 1)); b != "" || e != api.ErrLong {
		t.Errorf("Text of one byte too many: %d bytes, %v", len(b), e)
	}
}

// Promise 1.1: a list's bytes; R2: nil and empty are the same.
func TestList(t *testing.T) {
	for _, c := range []struct {
		l    []string
		want string
	}{
		{nil, "\x00"},
		{[]string{}, "\x00"},
		{[]string{""}, "\x01\x01\x00"},
		{[]string{"", ""}, "\x01\x02\x00\x00"},
		{[]string{"a", "", "bc"}, "\x01\x03\x01\x01a\x00\x01\x02bc"},
		{[]string{long(api.MaxBytes)}, "\x01\x01\x03\x01\x00\x00" + long(api.MaxBytes)},
		{texts(255), "\x01\xff" + strings.Repeat("\x01\x01t", 255)},
		{texts(256), "\x02\x01\x00" + strings.Repeat("\x01\x01t", 256)},
		{texts(1000), "\x02\x03\xe8" + strings.Repeat("\x01\x01t", 1000)},
	} {
		if b, e := List(c.l); b != c.want || e != api.OK {
			t.Errorf("List of %d: %d bytes, %v", len(c.l), len(b), e)
		}
	}
}

// Promise 1.1: more texts than a list may have, or one that is too long, wherever it stands.
func TestListTooLong(t *testing.T) {
	over := long(api.MaxBytes + 1)
	for i, l := range [][]string{
		texts(1001),
		texts(5000),
		{over},
		{over, "a"},
		{"a", over},
		append(texts(999), over),
		append(texts(1000), over),
	} {
		if b, e := List(l); b != "" || e != api.ErrLong {
			t.Errorf("list %d: %d bytes, %v", i, len(b), e)
		}
	}
}

// Rule R3: a list that is handed in stays as it is, its spare room too.
func TestListChangesNothing(t *testing.T) {
	room := []string{"a", "b", "spare"}
	if _, e := List(room[:2]); e != api.OK {
		t.Fatal(e)
	}
	if !slices.Equal(room, []string{"a", "b", "spare"}) {
		t.Errorf("List changed its argument: %q", room)
	}
}

// notNumbers do not begin with a number's bytes.
var notNumbers = []string{
	"",
	"\x01", "\x02\x01", "\x06\x01\x00\x00\x00\x00", // cut off
	"\x01\x00", "\x02\x00\x01", "\x02\x00\x00", "\x06\x00\x01\x00\x00\x00\x00", // a nought ahead
	"\x06\x01\x00\x00\x00\x00\x01", "\x06\x02\x00\x00\x00\x00\x00", "\x06\xff\xff\xff\xff\xff\xff", // above MaxInt
	"\x07", "\x07\x01\x00\x00\x00\x00\x00\x00", "\x08\x01\x00\x00\x00\x00\x00\x00\x00", "\xff\x01\x01\x01", // more digits than any has
	"\x09\x01\x00\x00\x00\x00\x00\x00\x00\x05", // 2^64 + 5, which an int would take for 5
}

// Promise 1.2: bytes that begin with no number.
func TestTakeNumWrong(t *testing.T) {
	for _, b := range notNumbers {
		if n, rest, e := TakeNum(b); n != 0 || rest != "" || e != api.ErrForm {
			t.Errorf("TakeNum(%q): %d, %q, %v", b, n, rest, e)
		}
	}
	if _, _, e := TakeNum("\xff" + strings.Repeat("\x01", 300)); e != api.ErrForm {
		t.Errorf("255 digits: %v", e)
	}
}

// Promise 1.2: bytes that begin with no text.
func TestTakeTextWrong(t *testing.T) {
	wrong := append(slices.Clone(notNumbers),
		"\x01\x01", "\x01\x03ab", "\x02\x01\x00"+long(255), // cut off
		"\x03\x01\x00\x00"+long(api.MaxBytes-1),
		"\x03\x01\x00\x01"+long(api.MaxBytes+1), // longer than a text may be
		"\x03\x01\x00\x01"+long(api.MaxBytes+2),
		"\x06\x01\x00\x00\x00\x00\x00ab",
	)
	for _, b := range wrong {
		if s, rest, e := TakeText(b); s != "" || rest != "" || e != api.ErrForm {
			t.Errorf("TakeText of %d bytes: %d bytes, %d bytes, %v", len(b), len(s), len(rest), e)
		}
	}
}

// Promise 1.2: bytes that begin with no list.
func TestTakeListWrong(t *testing.T) {
	wrong := append(slices.Clone(notNumbers),
		"\x01\x01", "\x01\x02\x00", "\x01\x01\x01\x02a", "\x01\x02\x01\x01a\x01", // cut off
		"\x01\x02\x01\x01a\x01\x00", // a nought ahead, in a text
		"\x01\x01\x03\x01\x00\x01"+long(api.MaxBytes+1),
		"\x02\x03\xe8"+strings.Repeat("\x00", 999),
		"\x02\x03\xe9"+strings.Repeat("\x00", 1001), // more texts than a list may have
		"\x02\x03\xe9"+strings.Repeat("\x00", 2000),
		"\x06\x01\x00\x00\x00\x00\x00"+strings.Repeat("\x00", 2000),
	)
	for _, b := range wrong {
		if l, rest, e := TakeList(b); len(l) != 0 || rest != "" || e != api.ErrForm {
			t.Errorf("TakeList of %d bytes: %d texts, %d bytes, %v", len(b), len(l), len(rest), e)
		}
	}
}

// Rule R3: a list that is answered is new memory.
func TestTakeListNewMemory(t *testing.T) {
	const b = "\x01\x02\x01\x01a\x01\x01b"
	one, _, _ := TakeList(b)
	one[0] = "changed"
	_ = append(one[:1], "changed")
	two, _, e := TakeList(b)
	if !slices.Equal(two, []string{"a", "b"}) || e != api.OK {
		t.Errorf("TakeList: %q, %v", two, e)
	}
}

// behinds are what may stand behind a thing that was written.
var behinds = []string{"", "\x00", "z", "\x01\x05", "\xff\xff", "\x06\x01\x00\x00\x00\x00\x00", long(300)}

// Promise 1.3: numbers come back.
func TestNumbersComeBack(t *testing.T) {
	for _, n := range numbers {
		b, e := Num(n)
		if e != api.OK {
			t.Fatalf("Num(%d): %v", n, e)
		}
		for _, behind := range behinds {
			if m, rest, e := TakeNum(b + behind); m != n || rest != behind || e != api.OK {
				t.Errorf("TakeNum of %d and %q: %d, %q, %v", n, behind, m, rest, e)
			}
		}
	}
}

var someTexts = []string{
	"", "a", "b", "ab", "\x00", "\x00\x00", "\xff", "\x01\x01a",
	long(127), long(128), long(255), long(256), long(api.MaxBytes - 1), long(api.MaxBytes),
}

// Promise 1.3: texts come back.
func TestTextsComeBack(t *testing.T) {
	for _, s := range someTexts {
		b, e := Text(s)
		if e != api.OK {
			t.Fatalf("Text of %d bytes: %v", len(s), e)
		}
		for _, behind := range behinds {
			if got, rest, e := TakeText(b + behind); got != s || rest != behind || e != api.OK {
				t.Errorf("TakeText of %d bytes: %d bytes, %q, %v", len(s), len(got), rest, e)
			}
		}
	}
}

var someLists = [][]string{
	nil, {""}, {"", ""}, {"", "", ""}, {"a"}, {"a", ""}, {"", "a"}, {"ab"}, {"a", "b"}, {"\x01\x01a"},
	texts(255), texts(256), texts(999), texts(1000), {long(api.MaxBytes), "", long(api.MaxBytes)},
	slices.Repeat([]string{""}, 1000), someTexts,
}

// Promise 1.3: lists come back.
func TestListsComeBack(t *testing.T) {
	for i, l := range someLists {
		b, e := List(l)
		if e != api.OK {
			t.Fatalf("list %d: %v", i, e)
		}
		for _, behind := range behinds {
			if got, rest, e := TakeList(b + behind); !slices.Equal(got, l) || rest != behind || e != api.OK {
				t.Errorf("TakeList of list %d and %q: %d texts, %q, %v", i, behind, len(got), rest, e)
			}
		}
	}
}

// Promise 1.3: of numbers, of texts and of lists none begins with another.
func TestNoneBeginsWithAnother(t *testing.T) {
	var nums, ts, lists []string
	for n := range 70000 {
		b, _ := Num(n)
		nums = append(nums, b)
	}
	for _, n := range numbers[12:] {
		b, _ := Num(n)
		nums = append(nums, b)
	}
	for _, s := range someTexts {
		b, _ := Text(s)
		ts = append(ts, b)
	}
	for _, l := range someLists {
		b, _ := List(l)
		lists = append(lists, b)
	}
	for _, written := range [][]string{nums, ts, lists} {
		// In order, bytes that begin with others stand right behind some that do.
		slices.Sort(written)
		for i := 1; i < len(written); i++ {
			if strings.HasPrefix(written[i], written[i-1]) {
				t.Errorf("%.40q begins with %.40q", written[i], written[i-1])
			}
		}
	}
}

// Promises 1.2 and 1.3: whatever is taken off is what would be written.
func TestTakenIsWritten(t *testing.T) {
	alphabet := []byte{0, 1, 2, 3, 6, 7, 255}
	var b [5]byte
	var walk func(at int)
	walk = func(at int) {
		if at < len(b) {
			for _, c := range alphabet {
				b[at] = c
				walk(at + 1)
			}
			return
		}
		s := string(b[:])
		if n, rest, e := TakeNum(s); e == api.OK {
			if w, _ := Num(n); w+rest != s {
				t.Errorf("TakeNum(%q): %d, %q", s, n, rest)
			}
		}
		if x, rest, e := TakeText(s); e == api.OK {
			if w, _ := Text(x); w+rest != s {
				t.Errorf("TakeText(%q): %q, %q", s, x, rest)
			}
		}
		if l, rest, e := TakeList(s); e == api.OK {
			if w, _ := List(l); w+rest != s {
				t.Errorf("TakeList(%q): %q, %q", s, l, rest)
			}
		}
	}
	walk(0)
}
