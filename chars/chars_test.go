package chars

import (
	"slices"
	"strings"
	"testing"

	"recto/api"
	"recto/utf"
)

const stranger = "\xef\xbf\xbd"

// small are all texts of at most four of these bytes: spaces, what stands beside them, letters, line's ends, 0, and bytes that are no character's.
func small() []string {
	parts := []string{"\x00", "\t", "\n", "\v", "\f", "\r", " ", "!", "A", "z", "\xc2", "\xa0", "\xff"}
	texts := []string{""}
	for from := 0; len(texts[from]) < 4; from++ {
		for _, p := range parts {
			texts = append(texts, texts[from]+p)
		}
	}
	return texts
}

// Promise 3.1: line's ends become 10, byte 0 and what is none becomes the stranger.
func TestReady(t *testing.T) {
	for _, x := range []struct{ s, want string }{
		{"", ""},
		{"abc", "abc"},
		{"a\r\nb\rc", "a\nb\nc"},
		{"\r", "\n"},
		{"\n", "\n"},
		{"a\r", "a\n"},
		{"a\r\n", "a\n"},
		{"\r\n", "\n"},
		{"\r\na", "\na"},
		{"\n\r", "\n\n"},
		{"\r\r", "\n\n"},
		{"\r\r\n", "\n\n"},
		{"\r\n\n", "\n\n"},
		{"\r\n\r\n", "\n\n"},
		{"\n\r\n", "\n\n"},
		{"\r \n", "\n \n"},
		{"\r\x00\n", "\n" + stranger + "\n"},
		{"\x00", stranger},
		{"a\x00\x00b", "a" + stranger + stranger + "b"},
		{"\xff", stranger},
		{"\xe2\x82", stranger + stranger},
		{"\xc3\x00\xa9", stranger + stranger + stranger},
		{"\xc3\r\xa9", stranger + "\n" + stranger},
		{"\xc3\xa9\r\xe2\x82\xac", "\xc3\xa9\n\xe2\x82\xac"},
		{stranger, stranger},
		{" \t\v\f\x1f\x7f", " \t\v\f\x1f\x7f"},
	} {
		if got, e := Ready(x.s); got != x.want || e != api.OK {
			t.Errorf("Ready(%q): %q, %v; want %q", x.s, got, e, x.want)
		}
	}
}

// Promise 3.1: as many bytes as MaxText come in, be the answer longer; one more does not.
func TestReadyLimit(t *testing.T) {
	for _, x := range []struct{ part, want string }{{"a", "a"}, {"\r", "\n"}, {"\x00", stranger}, {"\xff", stranger}} {
		s := strings.Repeat(x.part, api.MaxText)
		if got, e := Ready(s); got != strings.Repeat(x.want, api.MaxText) || e != api.OK {
			t.Errorf("%d times %q: %d bytes, %v", api.MaxText, x.part, len(got), e)
		}
		if got, e := Ready(s + x.part); got != "" || e != api.ErrLong {
			t.Errorf("%d times %q: %d bytes, %v", api.MaxText+1, x.part, len(got), e)
		}
	}
	// What is handed in counts, not what it becomes.
	if got, e := Ready(strings.Repeat("\r\n", api.MaxText/2) + "a"); got != "" || e != api.ErrLong {
		t.Errorf("13 and 10: %d bytes, %v", len(got), e)
	}
	if got, e := Ready(strings.Repeat("\r\n", api.MaxText/2)); got != strings.Repeat("\n", api.MaxText/2) || e != api.OK {
		t.Errorf("13 and 10: %d bytes, %v", len(got), e)
	}
}

// Promise 3.1: each byte's kinds.
func TestKinds(t *testing.T) {
	const (
		spaces  = "\t\n\f "
		letters = "ABCDEFGHIJKLMNOPQRSTUVWXYZabcdefghijklmnopqrstuvwxyz"
		digits  = "0123456789"
	)
	for i := range 256 {
		b := byte(i)
		if Space(b) != (strings.IndexByte(spaces, b) >= 0) {
			t.Errorf("Space(%d): %v", b, Space(b))
		}
		if Letter(b) != (strings.IndexByte(letters, b) >= 0) {
			t.Errorf("Letter(%d): %v", b, Letter(b))
		}
		if Digit(b) != (strings.IndexByte(digits, b) >= 0) {
			t.Errorf("Digit(%d): %v", b, Digit(b))
		}
	}
}

// Promise 3.2: whether all bytes are spaces.
func TestBlank(t *testing.T) {
	for _, s := range []string{"", " ", "\t\n\f ", strings.Repeat(" ", 9000)} {
		if !Blank(s) {
			t.Errorf("%q is blank", s)
		}
	}
	for _, s := range []string{"a", " a", "a ", " a ", "\v", "\r", "\x00", " \xc2\xa0", "\xa0", " \xff ", "\xe2\x80\x83", " \xc2 "} {
		if Blank(s) {
			t.Errorf("%q is not blank", s)
		}
	}
	for _, s := range small() {
		if Blank(s) != (strings.Trim(s, "\t\n\f ") == "") {
			t.Errorf("Blank(%q): %v", s, Blank(s))
		}
	}
}

// Promise 3.2: a to z for A to Z, byte by byte; all other bytes stay.
func TestLower(t *testing.T) {
	for _, x := range []struct{ s, want string }{
		{"", ""},
		{"abc", "abc"},
		{"AbC-Z9", "abc-z9"},
		{"caf\xc3\x89", "caf\xc3\x89"},
		{"\xe2\x84\xaaA", "\xe2\x84\xaaa"}, // the sign of Kelvin, which has a small form elsewhere
		{"\xffA\xc3", "\xffa\xc3"},
	} {
		if got := Lower(x.s); got != x.want {
			t.Errorf("Lower(%q): %q; want %q", x.s, got, x.want)
		}
	}
	for i := range 256 {
		want := byte(i)
		if i >= 65 && i <= 90 {
			want = byte(i + 32)
		}
		if got := Lower(string([]byte{byte(i)})); got != string([]byte{want}) {
			t.Errorf("Lower of the byte %d: %q", i, got)
		}
	}
}

// Promise 3.2: the spaces at both ends go, those within stay.
func TestTrim(t *testing.T) {
	for _, x := range []struct{ s, want string }{
		{"", ""},
		{" ", ""},
		{"\t\n\f ", ""},
		{"a", "a"},
		{" a", "a"},
		{"a ", "a"},
		{"\t\n\f a b \f\n\t", "a b"},
		{"a\n\nb", "a\n\nb"},
		{"\va\r", "\va\r"},
		{" \x00 ", "\x00"},
		{" \xc2\xa0a\xc2\xa0 ", "\xc2\xa0a\xc2\xa0"},
		{" \xff ", "\xff"},
	} {
		if got := Trim(x.s); got != x.want {
			t.Errorf("Trim(%q): %q; want %q", x.s, got, x.want)
		}
	}
	for _, s := range small() {
		if got := Trim(s); got != strings.Trim(s, "\t\n\f ") {
			t.Errorf("Trim(%q): %q", s, got)
		}
	}
}

// Promise 3.2: the parts between spaces, but empty ones.
func TestWords(t *testing.T) {
	for _, x := range []struct {
		s    string
		want []string
	}{
		{"", nil},
		{" ", nil},
		{"\t\n\f ", nil},
		{"a", []string{"a"}},
		{" a ", []string{"a"}},
		{"ab cd", []string{"ab", "cd"}},
		{" a  b\nc ", []string{"a", "b", "c"}},
		{"a\tb\nc\fd e", []string{"a", "b", "c", "d", "e"}},
		{"a\vb\rc\x00d", []string{"a\vb\rc\x00d"}},
		{"a a", []string{"a", "a"}},
		{"\xc2\xa0 \xff\xfe", []string{"\xc2\xa0", "\xff\xfe"}},
	} {
		if got := Words(x.s); !slices.Equal(got, x.want) {
			t.Errorf("Words(%q): %q; want %q", x.s, got, x.want)
		}
	}
	for _, s := range small() {
		words := Words(s)
		if slices.Contains(words, "") {
			t.Errorf("Words(%q): %q", s, words)
		}
		want := strings.ReplaceAll(strings.ReplaceAll(strings.ReplaceAll(s, "\t", " "), "\n", " "), "\f", " ")
		parts := slices.DeleteFunc(strings.Split(want, " "), func(p string) bool { return p == "" })
		if !slices.Equal(words, parts) {
			t.Errorf("Words(%q): %q; want %q", s, words, parts)
		}
	}
}

// Rule R3: no two answers share a list, spare room too.
func TestWordsAreNew(t *testing.T) {
	one, other := Words("a b c"), Words("a b c")
	one[0] = "x"
	_ = append(one[:1], "y")
	if !slices.Equal(other, []string{"a", "b", "c"}) {
		t.Errorf("%q", other)
	}
}

// Promise 3.3: what is ready stays so.
func TestReadyStays(t *testing.T) {
	for _, s := range append(small(), "a\r\nb\rc", "\xe2\x82\xac\x00\xe2\x82", "\xf4\x90\x80\x80\r") {
		ready, e := Ready(s)
		if e != api.OK || strings.ContainsAny(ready, "\x00\r") || !utf.Right(ready) {
			t.Fatalf("Ready(%q): %q, %v", s, ready, e)
		}
		if again, e := Ready(ready); again != ready || e != api.OK {
			t.Fatalf("Ready(%q): %q, %v", ready, again, e)
		}
	}
}

// Promise 3.3: a small form stays, and has as many bytes.
func TestLowerStays(t *testing.T) {
	for _, s := range append(small(), "AZ[@`az{", "\xc3\x89\xe2\x84\xaa") {
		once := Lower(s)
		if len(once) != len(s) || Lower(once) != once {
			t.Fatalf("Lower(%q): %q, then %q", s, once, Lower(once))
		}
	}
}
