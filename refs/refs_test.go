package refs

import (
	"strconv"
	"strings"
	"testing"

	"recto/utf"
)

const stranger = "\xef\xbf\xbd"

// told are the document's names; a star stands behind those that need no ; behind them.
const told = "amp* 38, lt* 60, gt* 62, quot* 34, nbsp* 160, copy* 169, reg* 174, not* 172, notin 8713, times* 215, para* 182, sect* 167, eacute* 233, Eacute* 201, auml* 228, Auml* 196, szlig* 223, euro 8364, hellip 8230, mdash 8212, ndash 8211, alpha 945, beta 946, rarr 8594, larr 8592, apos 39, yen* 165, micro* 181"

// toldOlds are the document's numbers that have another character.
const toldOlds = "128 8364, 130 8218, 131 402, 132 8222, 133 8230, 134 8224, 135 8225, 136 710, 137 8240, 138 352, 139 8249, 140 338, 142 381, 145 8216, 146 8217, 147 8220, 148 8221, 149 8226, 150 8211, 151 8212, 152 732, 153 8482, 154 353, 155 8250, 156 339, 158 382, 159 376"

type word struct {
	name string
	char int
	star bool
}

func words(t *testing.T) []word {
	t.Helper()
	var out []word
	for _, part := range strings.Split(told, ", ") {
		name, char, _ := strings.Cut(part, " ")
		c, err := strconv.Atoi(char)
		if err != nil {
			t.Fatal(err)
		}
		bare := strings.TrimSuffix(name, "*")
		out = append(out, word{bare, c, bare != name})
	}
	return out
}

func olderNumbers(t *testing.T) map[int]int {
	t.Helper()
	out := map[int]int{}
	for _, part := range strings.Split(toldOlds, ", ") {
		number, char, _ := strings.Cut(part, " ")
		n, err1 := strconv.Atoi(number)
		c, err2 := strconv.Atoi(char)
		if err1 != nil || err2 != nil {
			t.Fatal(err1, err2)
		}
		out[n] = c
	}
	return out
}

// hold asks for what All tells of a text, or of a value.
func hold(t *testing.T, s string, value bool, want string) {
	t.Helper()
	if got := All(s, value); got != want {
		t.Errorf("All(%q, %v): %q; want %q", s, value, got, want)
	}
}

func holdBoth(t *testing.T, s, want string) {
	t.Helper()
	hold(t, s, false, want)
	hold(t, s, true, want)
}

// Promise 4.1: what stands at a place, and the place behind it.
func TestAt(t *testing.T) {
	for _, x := range []struct {
		s     string
		at    int
		value bool
		want  string
		next  int
	}{
		{"", 0, false, "", 0},
		{"", -1, false, "", 0},
		{"", 1, true, "", 0},
		{"abc", -1, false, "", 3},
		{"abc", -1 << 63, true, "", 3},
		{"abc", 0, false, "a", 1},
		{"abc", 2, true, "c", 3},
		{"abc", 3, false, "", 3},
		{"abc", 4, false, "", 3},
		{"abc", 1<<63 - 1, true, "", 3},
		{"\x00", 0, false, "\x00", 1},
		{"a\xe2\x82\xacb", 1, false, "\xe2\x82\xac", 4},
		{"a\xe2\x82\xacb", 2, false, stranger, 3},
		{"a\xe2\x82\xacb", 3, true, stranger, 4},
		{"\xff", 0, false, stranger, 1},
		{"\xe2\x82", 0, false, stranger, 1},
		{stranger, 0, false, stranger, 3},
		{"a&copy;b", 0, false, "a", 1},
		{"a&copy;b", 1, false, "\xc2\xa9", 7},
		{"a&copy;b", 2, false, "c", 3},
		{"a&copy;b", 6, false, ";", 7},
		{"a&copyb", 1, false, "\xc2\xa9", 6},
		{"a&copyb", 1, true, "&", 2},
		{"&notin;", 0, true, "\xe2\x88\x89", 7},
		{"&notit;", 0, false, "\xc2\xac", 4},
		{"&notit;", 0, true, "&", 1},
		{"x&#65;y", 1, false, "A", 6},
		{"x&#65y", 1, true, "A", 5},
		{"x&#x41;y", 1, true, "A", 7},
		{"x&#X4g", 1, false, "\x04", 5},
		{"&", 0, false, "&", 1},
		{"&#", 0, false, "&", 1},
		{"&#", 1, false, "#", 2},
		{"&#x", 0, true, "&", 1},
		{"&&amp;", 0, false, "&", 1},
		{"&&amp;", 1, false, "&", 6},
	} {
		if got, next := At(x.s, x.at, x.value); got != x.want || next != x.next {
			t.Errorf("At(%q, %d, %v): %q, %d; want %q, %d", x.s, x.at, x.value, got, next, x.want, x.next)
		}
	}
}

// Promise 4.1: each name with its ;, whatever stands behind it, in texts and in values.
func TestNamesWithSemicolon(t *testing.T) {
	for _, w := range words(t) {
		c := utf.Bytes(w.char)
		for _, behind := range []string{"", "a", "Z", "0", "9", "=", ";", " ", "&", "\xff"} {
			holdBoth(t, "-&"+w.name+";"+behind, "-"+c+utf.Clean(behind))
		}
	}
}

// Promise 4.1: each name without its ;: in texts those with a star are references; in values, if neither a letter, a digit, nor = stands behind them.
func TestNamesWithoutSemicolon(t *testing.T) {
	for _, w := range words(t) {
		c, none := utf.Bytes(w.char), "&"+w.name
		inText, inValue, goesOn := none, none, none
		switch {
		case w.star:
			inText, inValue = c, c
		case w.name == "notin":
			inText = "\xc2\xacin" // the shorter name that it begins with
		}
		for _, behind := range []string{"", " ", "!", "&", "/", ":", "@", "[", "`", "{", "<", ">", "-", "_", "\n", "\xc3\xa9"} {
			hold(t, "&"+w.name+behind, false, inText+behind)
			hold(t, "&"+w.name+behind, true, inValue+behind)
		}
		for _, behind := range []string{"A", "Z", "a", "z", "0", "9", "=", "=;", "x;"} {
			hold(t, "&"+w.name+behind, false, inText+behind)
			hold(t, "&"+w.name+behind, true, goesOn+behind)
		}
	}
}

// Promise 4.1: of two names that begin alike it is the longer one, its ; counted.
func TestLongestName(t *testing.T) {
	const not, notin = "\xc2\xac", "\xe2\x88\x89"
	holdBoth(t, "&notin;", notin)
	holdBoth(t, "&not;in;", not+"in;")
	hold(t, "&notin", false, not+"in")
	hold(t, "&notin", true, "&notin")
	hold(t, "&notin ;", false, not+"in ;")
	hold(t, "&notin ;", true, "&notin ;")
	hold(t, "&notit;", false, not+"it;")
	hold(t, "&notit;", true, "&notit;")
	hold(t, "&notinx;", false, not+"inx;")
	hold(t, "&noti&notin;", false, not+"i"+notin)
}

// Promise 4.1: what is nearly a reference stays as it is.
func TestNoReference(t *testing.T) {
	for _, s := range []string{
		"&", "&&", "a & b", "& amp;", "&;", "&x;", "&AMP;", "&Amp;", "&am", "&am;", "&apos", "&apos ;", "&euro", "&hellip", "&no", "&eACUTE;", "&LT", "&quo;",
		"&#", "&#;", "&#x", "&#X", "&#x;", "&#X;", "&#a;", "&# 1;", "&#-1;", "&#+1;", "&#xg;", "&#x 1;", "&#xx1;", "&x41;", "& #65;", "#65;", "amp;",
	} {
		holdBoth(t, s, s)
	}
}

// Promise 4.1: references by numbers, to both bases, with and without a ;.
func TestNumbersInTexts(t *testing.T) {
	for _, x := range []struct{ s, want string }{
		{"&#65;", "A"},
		{"&#65", "A"},
		{"&#65B", "AB"},
		{"&#65;;", "A;"},
		{"&#65=", "A="},
		{"&#65&#66", "AB"},
		{"&#0065;", "A"},
		{"&#x41;", "A"},
		{"&#X41;", "A"},
		{"&#x41", "A"},
		{"&#x41g", "Ag"},
		{"&#x41G", "AG"},
		{"&#x4a;&#x4A;", "JJ"},
		{"&#xaf;&#xAF;&#xfa;&#xFA;", "\xc2\xaf\xc2\xaf\xc3\xba\xc3\xba"},
		{"&#xAbCdEf;", stranger},
		{"&#x10aBcD;", "\xf4\x8a\xaf\x8d"},
		{"&#9a;", "\ta;"},
		{"&#38;amp;", "&amp;"},
		{"&#x26;#65;", "&#65;"},
		{"&#13;&#10;", "\r\n"},
		{"&#1;", "\x01"},
		{"&#0;", stranger},
		{"&#x0", stranger},
		{"&#000", stranger},
		{"&#55295;&#55296;&#57343;&#57344;", "\xed\x9f\xbf" + stranger + stranger + "\xee\x80\x80"},
		{"&#xd7ff;&#xd800;&#xdfff;&#xe000;", "\xed\x9f\xbf" + stranger + stranger + "\xee\x80\x80"},
		{"&#1114111;&#1114112;", "\xf4\x8f\xbf\xbf" + stranger},
		{"&#x10ffff;&#x110000;", "\xf4\x8f\xbf\xbf" + stranger},
		{"&#127;&#160;", "\x7f\xc2\xa0"},
		{"&#128;&#x80;&#x9f;&#x81;", "\xe2\x82\xac\xe2\x82\xac\xc5\xb8\xc2\x81"},
	} {
		holdBoth(t, x.s, x.want)
	}
}

// Promise 4.1: a number of very many digits is one reference; it is told as if numbers had no end.
func TestLongNumbers(t *testing.T) {
	for _, digits := range []string{
		strings.Repeat("9", 5000), "1" + strings.Repeat("0", 5000), "18446744073709551681", "4294967361", "9223372036854775808", "x10000000000000041", "x100000041",
		"x" + strings.Repeat("f", 5000), "x1" + strings.Repeat("0", 64), "X8000000000000000",
	} {
		holdBoth(t, "&#"+digits+";.", stranger+".")
		holdBoth(t, "&#"+digits, stranger)
	}
	holdBoth(t, "&#"+strings.Repeat("0", 5000)+"65;.", "A.")
	holdBoth(t, "&#x"+strings.Repeat("0", 5000)+"41;.", "A.")
}

// Promise 4.1: all of a text, one behind the other; what begins no character is the stranger.
func TestAll(t *testing.T) {
	for _, x := range []struct{ s, want string }{
		{"", ""},
		{"abc", "abc"},
		{"caf\xc3\xa9 \xe2\x82\xac", "caf\xc3\xa9 \xe2\x82\xac"},
		{"a\xffb\xe2\x82", "a" + stranger + "b" + stranger + stranger},
		{"\x00\r\n", "\x00\r\n"},
		{"&lt;b&gt;", "<b>"},
		{"&amp;lt;", "&lt;"},
		{"&amp;amp;", "&amp;"},
		{"&&lt;", "&<"},
		{"&\xff;", "&" + stranger + ";"},
		{"&amp\xff", "&" + stranger},
	} {
		holdBoth(t, x.s, x.want)
	}
	hold(t, "?a=1&copy=2&amp;lt=3&reg", true, "?a=1&copy=2&lt=3\xc2\xae")
	hold(t, "?a=1&copy=2", false, "?a=1\xc2\xa9=2")
}

// Promise 4.1: All is what At tells, from 0 on; each step goes on.
func TestAllIsAt(t *testing.T) {
	for _, s := range smalls() {
		for _, value := range []bool{false, true} {
			whole := ""
			for at := 0; at < len(s); {
				here, next := At(s, at, value)
				if next <= at || next > len(s) || here == "" || !utf.Right(here) || utf.Count(here) != 1 {
					t.Fatalf("At(%q, %d, %v): %q, %d", s, at, value, here, next)
				}
				whole, at = whole+here, next
			}
			if got := All(s, value); got != whole {
				t.Fatalf("All(%q, %v): %q; want %q", s, value, got, whole)
			}
		}
	}
}

// smalls are all texts of at most four of these parts.
func smalls() []string {
	parts := []string{"&", "#", "x", "1", ";", "amp", "not", "in", "=", "<", ">", "\"", "\xc2\xa0", "\xc2", "\xff"}
	texts := []string{""}
	last := texts
	for range 4 {
		var longer []string
		for _, s := range last {
			for _, p := range parts {
				longer = append(longer, s+p)
			}
		}
		texts, last = append(texts, longer...), longer
	}
	return texts
}

// Promise 4.2: the character of each name, and of nothing else.
func TestName(t *testing.T) {
	for _, w := range words(t) {
		if c, ok := Name(w.name); c != w.char || !ok {
			t.Errorf("Name(%q): %d, %v", w.name, c, ok)
		}
		for _, s := range []string{w.name + ";", "&" + w.name, w.name + " ", w.name + "x", w.name + "*", strings.ToUpper(w.name), w.name[1:]} {
			if c, ok := Name(s); c != 0 || ok {
				t.Errorf("Name(%q): %d, %v", s, c, ok)
			}
		}
	}
	for _, s := range []string{"", "&", ";", "a", "x", "eACUTE", "\xff", "#65"} {
		if c, ok := Name(s); c != 0 || ok {
			t.Errorf("Name(%q): %d, %v", s, c, ok)
		}
	}
}

// Promise 4.2: the character of each number.
func TestNumber(t *testing.T) {
	olds := olderNumbers(t)
	if len(olds) != 27 {
		t.Fatal(len(olds))
	}
	for n := range 1114111 + 2 {
		want := n
		switch c, old := olds[n]; {
		case old:
			want = c
		case n == 0 || n >= 55296 && n <= 57343 || n > 1114111:
			want = utf.Stranger
		}
		if c := Number(n); c != want {
			t.Fatalf("Number(%d): %d; want %d", n, c, want)
		}
	}
	for _, n := range []int{-1, -65, -128, -1 << 63, 1 << 21, 1 << 32, 1<<32 + 65, 1<<63 - 1} {
		if c := Number(n); c != utf.Stranger {
			t.Errorf("Number(%d): %d", n, c)
		}
	}
}

// Promise 4.2: what is written by a name, in a text and in a value; all other bytes stay.
func TestEscape(t *testing.T) {
	for _, x := range []struct{ s, text, value string }{
		{"", "", ""},
		{"abc", "abc", "abc"},
		{"&", "&amp;", "&amp;"},
		{"\xc2\xa0", "&nbsp;", "&nbsp;"},
		{"<", "&lt;", "&lt;"},
		{">", "&gt;", "&gt;"},
		{"\"", "\"", "&quot;"},
		{"'", "'", "'"},
		{"&amp;", "&amp;amp;", "&amp;amp;"},
		{"<a b=\"&\">\xc2\xa0", "&lt;a b=\"&amp;\"&gt;&nbsp;", "&lt;a b=&quot;&amp;&quot;&gt;&nbsp;"},
		{"a<b<c", "a&lt;b&lt;c", "a&lt;b&lt;c"},
		{"\xc2\xa0\xc2\xa0x\xc2\xa1\xc2\x9f", "&nbsp;&nbsp;x\xc2\xa1\xc2\x9f", "&nbsp;&nbsp;x\xc2\xa1\xc2\x9f"},
		{"caf\xc3\xa9 \xe2\x82\xac\xf0\x9f\x98\x80", "caf\xc3\xa9 \xe2\x82\xac\xf0\x9f\x98\x80", "caf\xc3\xa9 \xe2\x82\xac\xf0\x9f\x98\x80"},
		{"\x00\r\n\t", "\x00\r\n\t", "\x00\r\n\t"},
		{"\xff<\xe2\x82", "\xff&lt;\xe2\x82", "\xff&lt;\xe2\x82"},
		{"\xa0\xc2&", "\xa0\xc2&amp;", "\xa0\xc2&amp;"},
		{"\xe2\xc2\xa0\xa0", "\xe2&nbsp;\xa0", "\xe2&nbsp;\xa0"},
		{"\xe2\x82\xa0", "\xe2\x82\xa0", "\xe2\x82\xa0"},
		{stranger, stranger, stranger},
	} {
		if got := Escape(x.s, false); got != x.text {
			t.Errorf("Escape(%q): %q; want %q", x.s, got, x.text)
		}
		if got := Escape(x.s, true); got != x.value {
			t.Errorf("Escape(%q) in a value: %q; want %q", x.s, got, x.value)
		}
	}
}

// Promise 4.3: what was escaped is what it was.
func TestEscapedComesBack(t *testing.T) {
	all := smalls()
	for _, w := range words(t) {
		all = append(all, utf.Bytes(w.char), "&"+w.name, "&"+w.name+";", "&"+w.name+"=", "\"&"+w.name+"\xc2\xa0")
	}
	for i := range 300 {
		all = append(all, utf.Bytes(i), utf.Bytes(i)+"&#"+strconv.Itoa(i)+";")
	}
	for _, s := range all {
		if !utf.Right(s) {
			continue
		}
		for _, value := range []bool{false, true} {
			if got := All(Escape(s, value), value); got != s {
				t.Fatalf("%q, escaped, %v: %q", s, value, got)
			}
		}
		for _, b := range "<>" {
			if strings.ContainsRune(Escape(s, false), b) || strings.ContainsRune(Escape(s, true), b) {
				t.Fatalf("%q, escaped, has %q", s, b)
			}
		}
		if strings.Contains(Escape(s, true), "\"") {
			t.Fatalf("%q, escaped in a value: %q", s, Escape(s, true))
		}
	}
}
