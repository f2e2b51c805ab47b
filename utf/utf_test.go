package utf

import (
	"strings"
	"testing"
	"unicode/utf8"

	"recto/api"
)

const stranger = "\xef\xbf\xbd"

// edges are the first and the last characters of each range, with their bytes.
var edges = []struct {
	c     int
	bytes string
}{
	{0, "\x00"}, {65, "A"}, {127, "\x7f"},
	{128, "\xc2\x80"}, {233, "\xc3\xa9"}, {2047, "\xdf\xbf"},
	{2048, "\xe0\xa0\x80"}, {8364, "\xe2\x82\xac"}, {55295, "\xed\x9f\xbf"},
	{57344, "\xee\x80\x80"}, {65533, "\xef\xbf\xbd"}, {65535, "\xef\xbf\xbf"},
	{65536, "\xf0\x90\x80\x80"}, {128512, "\xf0\x9f\x98\x80"}, {1114111, "\xf4\x8f\xbf\xbf"},
}

// wrongs begin with no character's bytes.
var wrongs = []string{
	"\x80", "\xbf", "\x80\x80", "\xa9A", // no first byte
	"\xc0\x80", "\xc1\xbf", "\xe0\x80\x80", "\xe0\x9f\xbf", "\xf0\x80\x80\x80", "\xf0\x8f\xbf\xbf", // fewer bytes would do
	"\xed\xa0\x80", "\xed\xaf\xbf", "\xed\xb0\x80", "\xed\xbf\xbf", // 55296 to 57343
	"\xf4\x90\x80\x80", "\xf5\x80\x80\x80", "\xf7\xbf\xbf\xbf", // above 1114111
	"\xf8\x80\x80\x80", "\xf8\x88\x80\x80\x80", "\xfb\xbf\xbf\xbf\xbf", "\xfc\x84\x80\x80\x80\x80", "\xfe", "\xff", "\xff\xbf\xbf\xbf",
	"\xc3", "\xe2", "\xe2\x82", "\xf0", "\xf0\x9f", "\xf0\x9f\x98", // cut off
	"\xc3A", "\xc3\xc3\xa9", "\xe2A\xac", "\xe2\x82A", "\xf0A\x98\x80", "\xf0\x9fA\x80", "\xf0\x9f\x98A", "\xf0\x9f\x98\xc0", "\xe2\x7f\xac", // broken off
}

// Promise 2.1: a character's bytes; the stranger's, if it is none.
func TestBytes(t *testing.T) {
	for _, x := range edges {
		if b := Bytes(x.c); b != x.bytes {
			t.Errorf("Bytes(%d): %q", x.c, b)
		}
	}
	for _, c := range []int{-1, -65, -1 << 63, 55296, 56000, 57343, 1114112, 2097151, 2097152, 1 << 32, 1<<32 + 65, 1<<63 - 1} {
		if b := Bytes(c); b != stranger {
			t.Errorf("Bytes(%d): %q", c, b)
		}
	}
}

// Promise 2.1: the character ahead, and how many bytes it has.
func TestFirst(t *testing.T) {
	if c, n := First(""); c != 0 || n != 0 {
		t.Errorf("First of nothing: %d, %d", c, n)
	}
	for _, x := range edges {
		if c, n := First(x.bytes); c != x.c || n != len(x.bytes) {
			t.Errorf("First(%q): %d, %d", x.bytes, c, n)
		}
	}
	for _, s := range wrongs {
		if c, n := First(s); c != Stranger || n != 1 {
			t.Errorf("First(%q): %d, %d", s, c, n)
		}
	}
}

// Promise 2.1: First is held against the library's decoder, over each three bytes, and over four that have an edge in each place.
func TestFirstEverywhere(t *testing.T) {
	hold := func(s string) {
		r, want := utf8.DecodeRuneInString(s)
		if c, n := First(s); c != int(r) || n != want {
			t.Fatalf("First(%q): %d, %d; want %d, %d", s, c, n, r, want)
		}
	}
	for i := range 1 << 24 {
		hold(string([]byte{byte(i >> 16), byte(i >> 8), byte(i)}))
	}
	tails := []byte{0, 65, 127, 128, 129, 143, 144, 159, 160, 190, 191, 192, 193, 255}
	for head := range 256 {
		for _, b := range tails {
			hold(string([]byte{byte(head)}))
			hold(string([]byte{byte(head), b}))
			for _, c := range tails {
				for _, d := range tails {
					hold(string([]byte{byte(head), b, c, d}))
				}
			}
		}
	}
}

// Promise 2.2: whether all is right bytes.
func TestRight(t *testing.T) {
	all := ""
	for _, x := range edges {
		all += x.bytes
		if !Right(x.bytes) || !Right(all) {
			t.Errorf("%q is right", x.bytes)
		}
	}
	if !Right("") {
		t.Error("nothing is right")
	}
	for _, s := range wrongs {
		for _, x := range []string{s, "a" + s, all + s, s + "a", s + all, stranger + s} {
			if Right(x) {
				t.Errorf("%q is not right", x)
			}
		}
	}
}

// Promise 2.2: what is no character's byte becomes the stranger, byte by byte.
func TestClean(t *testing.T) {
	for _, x := range []struct{ s, want string }{
		{"", ""},
		{"abc", "abc"},
		{"caf\xc3\xa9", "caf\xc3\xa9"},
		{stranger, stranger},
		{"\xff", stranger},
		{"a\xffb", "a" + stranger + "b"},
		{"a\xffb\xe2\x82", "a" + stranger + "b" + stranger + stranger},
		{"\xe2\x82\xac\xe2\x82", "\xe2\x82\xac" + stranger + stranger},
		{"\xc3\xc3\xa9", stranger + "\xc3\xa9"},
		{"\xf0\x9f\x98A", stranger + stranger + stranger + "A"},
		{"\xed\xa0\x80", stranger + stranger + stranger},
		{"\xf4\x90\x80\x80", stranger + stranger + stranger + stranger},
		{"\xc0\x80", stranger + stranger},
		{"\xef\xbf\xef\xbf\xbd", stranger + stranger + stranger},
	} {
		if got := Clean(x.s); got != x.want {
			t.Errorf("Clean(%q): %q; want %q", x.s, got, x.want)
		}
	}
}

// Promise 2.2: Count and At tell of the cleaned text.
func TestCountAndAt(t *testing.T) {
	for _, x := range []struct {
		s    string
		want []int
	}{
		{"", nil},
		{"a", []int{97}},
		{"\x00\x00", []int{0, 0}},
		{"a\xc3\xa9\xe2\x82\xac\xf0\x9f\x98\x80z", []int{97, 233, 8364, 128512, 122}},
		{"a\xc3\xa9\xff", []int{97, 233, Stranger}},
		{"\xe2\x82", []int{Stranger, Stranger}},
		{"\xed\xa0\x80" + stranger + "b", []int{Stranger, Stranger, Stranger, Stranger, 98}},
	} {
		if n := Count(x.s); n != len(x.want) {
			t.Errorf("Count(%q): %d", x.s, n)
		}
		for i, want := range x.want {
			if c, e := At(x.s, i); c != want || e != api.OK {
				t.Errorf("At(%q, %d): %d, %v", x.s, i, c, e)
			}
		}
		for _, n := range []int{len(x.want), len(x.want) + 1, len(x.want) + 1000, 1<<63 - 1} {
			if c, e := At(x.s, n); c != 0 || e != api.ErrNone {
				t.Errorf("At(%q, %d): %d, %v", x.s, n, c, e)
			}
		}
		for _, n := range []int{-1, -2, -1 << 63} {
			if c, e := At(x.s, n); c != 0 || e != api.ErrArg {
				t.Errorf("At(%q, %d): %d, %v", x.s, n, c, e)
			}
		}
	}
}

// Promise 2.3: there and back, each character that there is, whatever is behind it.
func TestThereAndBack(t *testing.T) {
	for c := range 1114112 {
		if c >= 55296 && c <= 57343 {
			if b := Bytes(c); b != stranger {
				t.Fatalf("Bytes(%d): %q", c, b)
			}
			continue
		}
		b := Bytes(c)
		if b != string(rune(c)) {
			t.Fatalf("Bytes(%d): %q", c, b)
		}
		for _, behind := range []string{"", "a", "\x80", "\xbf\xbf", "\xff", b} {
			if got, n := First(b + behind); got != c || n != len(b) {
				t.Fatalf("First(%q): %d, %d", b+behind, got, n)
			}
		}
	}
}

// Promise 2.3: what is cleaned is right, and what is right stays, within other bytes too.
func TestCleanIsRight(t *testing.T) {
	parts := append([]string{"", "a\xffb", "\xff\xff", strings.Repeat("\xf0\x9f\x98", 50)}, wrongs...)
	rights := []string{"", "right", stranger}
	for _, x := range edges {
		rights = append(rights, x.bytes)
	}
	for _, right := range rights {
		if got := Clean(right); got != right {
			t.Errorf("Clean(%q): %q", right, got)
		}
		for _, a := range parts {
			for _, b := range parts {
				got := Clean(a + right + b)
				if !Right(got) || !utf8.ValidString(got) || Clean(got) != got {
					t.Errorf("Clean(%q) is not right: %q", a+right+b, got)
				}
				if right != "" && got != Clean(a)+right+Clean(b) {
					t.Errorf("Clean(%q): %q", a+right+b, got)
				}
				if Count(a+right+b) != utf8.RuneCountInString(got) {
					t.Errorf("Count(%q): %d", a+right+b, Count(a+right+b))
				}
			}
		}
	}
}
