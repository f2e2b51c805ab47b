package urls

import (
	"fmt"
	"regexp"
	"slices"
	"strings"
	"testing"
)

// texts are all texts of at most n of these parts, one behind the other.
func texts(n int, parts ...string) []string {
	all := []string{""}
	last := all
	for range n {
		var longer []string
		for _, s := range last {
			for _, p := range parts {
				longer = append(longer, s+p)
			}
		}
		all, last = append(all, longer...), longer
	}
	return all
}

// many are addresses of all kinds: short ones of the bytes that mean something, also behind what begins an address.
func many() []string {
	all := texts(4, "a", "Z", "1", "+", ":", "/", "\\", "?", "#", " ", "\n", "\x00", "\xff")
	ends := texts(3, "a", "B", ":", "/", "\\", "?", "#", " ", "\t", "\r", "\xc3")
	for _, begin := range []string{"//", "Ab:", "a1+-.://", " \nhT\rtp:/", "/\t/", "?", "#", "x#?", "x?#"} {
		for _, end := range ends {
			all = append(all, begin+end)
		}
	}
	return all
}

// plainForm is the plain form, told by the library.
func plainForm(s string) string {
	b := []byte(s)
	for len(b) > 0 && b[0] < 33 {
		b = b[1:]
	}
	for len(b) > 0 && b[len(b)-1] < 33 {
		b = b[:len(b)-1]
	}
	return strings.ReplaceAll(strings.ReplaceAll(strings.ReplaceAll(string(b), "\x09", ""), "\x0a", ""), "\x0d", "")
}

var parts = regexp.MustCompile(`(?s)^(([a-zA-Z][a-zA-Z0-9+.-]*):)?(//([^/\\?#]*))?([^?#]*)(\?([^#]*))?(#(.*))?$`)

// plainParts are an address's parts, told by the library.
func plainParts(s string) Parts {
	m := parts.FindStringSubmatch(plainForm(s))
	return Parts{
		HasScheme: m[1] != "", Scheme: strings.ToLower(m[2]),
		HasHost: m[3] != "", Host: m[4],
		Path:     m[5],
		HasQuery: m[6] != "", Query: m[7],
		HasMark: m[8] != "", Mark: m[9],
	}
}

// Promise 15.1: bytes up to 32 go at both ends; 9, 10 and 13 go anywhere.
func TestPlain(t *testing.T) {
	for _, x := range []struct{ s, want string }{
		{"", ""},
		{"a", "a"},
		{"http://a.b/c?d#e", "http://a.b/c?d#e"},
		{" ", ""},
		{"\x00\x01\t\n\v\f\r\x1f ", ""},
		{" a", "a"},
		{"a ", "a"},
		{" \x00\x1f a \x1f\x00 ", "a"},
		{"\t\n\ra\t\n\r", "a"},
		{"a\tb\nc\rd", "abcd"},
		{"a\r\nb\n\nc", "abc"},
		{"a \t b", "a  b"},
		{"a\x00\x01\v\f\x1f b", "a\x00\x01\v\f\x1f b"},
		{"\n \n a \n b \n \n", "a  b"},
		{"!a!", "!a!"},
		{"\x7fa\x7f", "\x7fa\x7f"},
		{"\x80a\xff", "\x80a\xff"},
		{"\xff\n\xfe", "\xff\xfe"},
		{"\xc2\n\xa0", "\xc2\xa0"},
		{"\u00a0a\u00a0", "\u00a0a\u00a0"},
		{"\u2028a\u3000", "\u2028a\u3000"},
		{"Java\nScript:X", "JavaScript:X"},
		{strings.Repeat(" \n", 50000) + "a\t" + strings.Repeat("\x01", 50000), "a"},
	} {
		if got := Plain(x.s); got != x.want {
			t.Errorf("Plain(%q): %q; want %q", x.s, got, x.want)
		}
	}
}

// Promise 15.1: each byte alone, at both ends, and within.
func TestPlainBytes(t *testing.T) {
	for i := range 256 {
		b := string([]byte{byte(i)})
		want, within := b, b
		if i <= 32 {
			want = ""
		}
		if i == 9 || i == 10 || i == 13 {
			within = ""
		}
		if got := Plain(b); got != want {
			t.Errorf("Plain(%q): %q; want %q", b, got, want)
		}
		if got := Plain(b + "x" + b); got != want+"x"+want {
			t.Errorf("Plain(%q): %q", b+"x"+b, got)
		}
		if got := Plain("x" + b + "y"); got != "x"+within+"y" {
			t.Errorf("Plain(%q): %q", "x"+b+"y", got)
		}
	}
}

// holdParts asks for an address's parts, in words: those it has alone.
func holdParts(t *testing.T, s, want string) {
	t.Helper()
	p := Split(s)
	var told []string
	for _, x := range []struct {
		name, text string
		has        bool
	}{{"scheme", p.Scheme, p.HasScheme}, {"host", p.Host, p.HasHost}, {"path", p.Path, p.Path != ""}, {"query", p.Query, p.HasQuery}, {"mark", p.Mark, p.HasMark}} {
		if x.has {
			told = append(told, x.name+"="+x.text)
		} else if x.text != "" {
			t.Errorf("Split(%q): no %s, but %q", s, x.name, x.text)
		}
	}
	if got := strings.Join(told, " | "); got != want {
		t.Errorf("Split(%q): %s; want %s", s, got, want)
	}
}

// Promise 15.1: the document's examples, and ordinary addresses.
func TestSplitOrdinary(t *testing.T) {
	holdParts(t, "Java\nScript:x", "scheme=javascript | path=x")
	holdParts(t, "//h/p?q#m", "host=h | path=/p | query=q | mark=m")
	holdParts(t, "http://a.b:80/c/d?e=1&f=2#g", "scheme=http | host=a.b:80 | path=/c/d | query=e=1&f=2 | mark=g")
	holdParts(t, "https://a.b", "scheme=https | host=a.b")
	holdParts(t, "mailto:a@b.c?subject=d", "scheme=mailto | path=a@b.c | query=subject=d")
	holdParts(t, "data:text/html,<b>", "scheme=data | path=text/html,<b>")
	holdParts(t, "/a/b", "path=/a/b")
	holdParts(t, "a/b", "path=a/b")
	holdParts(t, "../a.b", "path=../a.b")
	holdParts(t, "?q", "query=q")
	holdParts(t, "#m", "mark=m")
	holdParts(t, "", "")
	holdParts(t, " \n\x00", "")
}

// Promise 15.1: what is a scheme, and what is none.
func TestSplitScheme(t *testing.T) {
	holdParts(t, "HTTP:x", "scheme=http | path=x")
	holdParts(t, "hTtP:X", "scheme=http | path=X")
	holdParts(t, "AZaz:", "scheme=azaz")
	holdParts(t, "a:", "scheme=a")
	holdParts(t, "a::b:c", "scheme=a | path=:b:c")
	holdParts(t, "a1:b", "scheme=a1 | path=b")
	holdParts(t, "a+-.9Z:b", "scheme=a+-.9z | path=b")
	holdParts(t, "a-:b", "scheme=a- | path=b")
	for _, s := range []string{":", ":x", "1a:b", "+a:b", "-a:b", ".a:b", "a", "abc", "a b:c", "a_b:c", "a%3ab:c", "a\\b:c", "a@b:c", "a[:b", "a`:b", "a{:b", "a\x00b:c", "a\vb:c", "a\xffb:c", "\xffa:b", "\xc3\xa9:b", "a\xc3\xa9:b", "a;b:c", "a,b:c", "a*:b", "@a:b"} {
		holdParts(t, s, "path="+s)
	}
	// The sign of Kelvin and the long s have letters as small or great forms elsewhere.
	holdParts(t, "\u212aa:b", "path=\u212aa:b")
	holdParts(t, "java\u017fcript:b", "path=java\u017fcript:b")
	// A : behind a /, ? or # ends no scheme.
	holdParts(t, "/a:b", "path=/a:b")
	holdParts(t, "a/b:c", "path=a/b:c")
	holdParts(t, "a?b:c", "path=a | query=b:c")
	holdParts(t, "a#b:c", "path=a | mark=b:c")
	holdParts(t, "?a:b", "query=a:b")
	holdParts(t, "#a:b", "mark=a:b")
	holdParts(t, "//a:b", "host=a:b")
	// What the plain form has not is passed over, wherever it stands.
	holdParts(t, " \x00\tjava\rscr\t\nipt\n:\rx\n ", "scheme=javascript | path=x")
	holdParts(t, "\nJ\nA\nV\nA\n:", "scheme=java")
	holdParts(t, "java script:x", "path=java script:x")
	holdParts(t, "java\x01script:x", "path=java\x01script:x")
	holdParts(t, "java\fscript:x", "path=java\fscript:x")
	holdParts(t, "javascript :x", "path=javascript :x")
	holdParts(t, "\x01javascript:x", "scheme=javascript | path=x")
	long := strings.Repeat("a", 100000)
	holdParts(t, strings.ToUpper(long)+":b", "scheme="+long+" | path=b")
	holdParts(t, long, "path="+long)
}

// Promise 15.1: each byte at the beginning of a scheme, and within it.
func TestSplitSchemeBytes(t *testing.T) {
	const letters = "ABCDEFGHIJKLMNOPQRSTUVWXYZabcdefghijklmnopqrstuvwxyz"
	for i := range 256 {
		b := string([]byte{byte(i)})
		if i <= 32 || i == ':' {
			continue
		}
		first := strings.Contains(letters, b)
		if p := Split(b + "x:y"); p.HasScheme != first {
			t.Errorf("the byte %d begins a scheme: %v", i, p.HasScheme)
		}
		within := first || strings.Contains("0123456789+-.", b)
		if p := Split("x" + b + "x:y"); p.HasScheme != within {
			t.Errorf("the byte %d stands in a scheme: %v", i, p.HasScheme)
		}
		if p := Split("x" + b + ":y"); p.HasScheme != within {
			t.Errorf("the byte %d ends a scheme: %v", i, p.HasScheme)
		}
	}
}

// Promise 15.1: the mark is cut off first, then the query; either with nothing behind it, and several of each.
func TestSplitMarkAndQuery(t *testing.T) {
	holdParts(t, "a?b#c", "path=a | query=b | mark=c")
	holdParts(t, "a#b?c", "path=a | mark=b?c")
	holdParts(t, "?a#b?c", "query=a | mark=b?c")
	holdParts(t, "#", "mark=")
	holdParts(t, "?", "query=")
	holdParts(t, "?#", "query= | mark=")
	holdParts(t, "#?", "mark=?")
	holdParts(t, "a#", "path=a | mark=")
	holdParts(t, "a?", "path=a | query=")
	holdParts(t, "a?b?c", "path=a | query=b?c")
	holdParts(t, "a#b#c", "path=a | mark=b#c")
	holdParts(t, "a??b##c", "path=a | query=?b | mark=#c")
	holdParts(t, "a?b#c?d#e", "path=a | query=b | mark=c?d#e")
	holdParts(t, "x:#", "scheme=x | mark=")
	holdParts(t, "x:?", "scheme=x | query=")
	holdParts(t, "x:?//h", "scheme=x | query=//h")
	holdParts(t, "#//h", "mark=//h")
	holdParts(t, "/?/#/", "path=/ | query=/ | mark=/")
	holdParts(t, "a?\n#\t", "path=a | query= | mark=")
	holdParts(t, "a?\xff#\xfe", "path=a | query=\xff | mark=\xfe")
}

// Promise 15.1: a host ends with /, with \, and with what is left.
func TestSplitHost(t *testing.T) {
	holdParts(t, "//", "host=")
	holdParts(t, "///", "host= | path=/")
	holdParts(t, "////", "host= | path=//")
	holdParts(t, "//\\", "host= | path=\\")
	holdParts(t, "//h", "host=h")
	holdParts(t, "//h/", "host=h | path=/")
	holdParts(t, "//h\\p", "host=h | path=\\p")
	holdParts(t, "//h/p\\q", "host=h | path=/p\\q")
	holdParts(t, "//h\\p/q", "host=h | path=\\p/q")
	holdParts(t, "//h//p", "host=h | path=//p")
	holdParts(t, "//H:8@x/p", "host=H:8@x | path=/p")
	holdParts(t, "//?q", "host= | query=q")
	holdParts(t, "//#m", "host= | mark=m")
	holdParts(t, "//h?q/r", "host=h | query=q/r")
	holdParts(t, "//h#m/n", "host=h | mark=m/n")
	holdParts(t, "x://", "scheme=x | host=")
	holdParts(t, "x:///p", "scheme=x | host= | path=/p")
	holdParts(t, "x://h\\", "scheme=x | host=h | path=\\")
	holdParts(t, "x:/p", "scheme=x | path=/p")
	holdParts(t, "x:p//h", "scheme=x | path=p//h")
	holdParts(t, "/", "path=/")
	holdParts(t, "\\\\h", "path=\\\\h")
	holdParts(t, "/\\h", "path=/\\h")
	holdParts(t, "\\/h", "path=\\/h")
	holdParts(t, "p//h", "path=p//h")
	holdParts(t, "/ /h", "path=/ /h")
	holdParts(t, "/\n/\th\r/p", "host=h | path=/p")
	holdParts(t, "//\xff\x80/\xc3", "host=\xff\x80 | path=/\xc3")
}

// Promises 15.1, 15.2: plain form, parts and scheme, held against the library's telling of them.
func TestSplitMany(t *testing.T) {
	for _, s := range many() {
		want := plainParts(s)
		if got := Plain(s); got != plainForm(s) {
			t.Fatalf("Plain(%q): %q; want %q", s, got, plainForm(s))
		}
		if got := Split(s); got != want {
			t.Fatalf("Split(%q): %+v; want %+v", s, got, want)
		}
		if scheme, has := Scheme(s); scheme != want.Scheme || has != want.HasScheme {
			t.Fatalf("Scheme(%q): %q, %v; want %q, %v", s, scheme, has, want.Scheme, want.HasScheme)
		}
	}
}

// Promise 15.1: what parts tell, also where no address has such parts; what it has not is not told.
func TestJoin(t *testing.T) {
	for i := range 16 {
		p := Parts{Scheme: "S", Host: "H", Path: "P", Query: "Q", Mark: "M", HasScheme: i&1 > 0, HasHost: i&2 > 0, HasQuery: i&4 > 0, HasMark: i&8 > 0}
		want := "P"
		for _, x := range []struct {
			has           bool
			ahead, behind string
		}{{p.HasHost, "//H", ""}, {p.HasScheme, "S:", ""}, {p.HasQuery, "", "?Q"}, {p.HasMark, "", "#M"}} {
			if x.has {
				want = x.ahead + want + x.behind
			}
		}
		if got := Join(p); got != want {
			t.Errorf("Join(%+v): %q; want %q", p, got, want)
		}
	}
	for _, x := range []struct {
		p    Parts
		want string
	}{
		{Parts{}, ""},
		{Parts{HasScheme: true}, ":"},
		{Parts{HasHost: true}, "//"},
		{Parts{HasQuery: true}, "?"},
		{Parts{HasMark: true}, "#"},
		{Parts{HasScheme: true, HasHost: true, HasQuery: true, HasMark: true}, "://?#"},
		{Parts{Scheme: "a", Host: "b", Query: "c", Mark: "d"}, ""},
		{Parts{Scheme: "1 A:\n", HasScheme: true, Path: "//x"}, "1 A:\n://x"},
		{Parts{Host: "h/\\?#", HasHost: true, Path: "p"}, "//h/\\?#p"},
		{Parts{Path: " a:b?c#d\t"}, " a:b?c#d\t"},
		{Parts{Path: "p", Query: "#?", HasQuery: true, Mark: "#?", HasMark: true}, "p?#?##?"},
		{Parts{Scheme: "\xff", HasScheme: true, Host: "\x80", HasHost: true, Path: "\xc3", Query: "\x00", HasQuery: true, Mark: "\r", HasMark: true}, "\xff://\x80\xc3?\x00#\r"},
	} {
		if got := Join(x.p); got != x.want {
			t.Errorf("Join(%+v): %q; want %q", x.p, got, x.want)
		}
	}
}

// Promise 15.2: a scheme, and whether there is one.
func TestScheme(t *testing.T) {
	for _, x := range []struct {
		s, want string
		has     bool
	}{
		{"", "", false},
		{"a", "", false},
		{":", "", false},
		{"/a:b", "", false},
		{"1:b", "", false},
		{"a:", "a", true},
		{"JAVA\tscript:x", "javascript", true},
		{" Mail+To:x", "mail+to", true},
		{"\xffa:b", "", false},
	} {
		if got, has := Scheme(x.s); got != x.want || has != x.has {
			t.Errorf("Scheme(%q): %q, %v; want %q, %v", x.s, got, has, x.want, x.has)
		}
	}
}

// Promise 15.2: no scheme, or one of those told, byte by byte.
func TestSafe(t *testing.T) {
	web := []string{"http", "https", "mailto"}
	for _, s := range []string{"", "x/y", "/x", "//h/p", "?q", "#m", ":x", "1a:b", "/javascript:x", "?javascript:x", "#javascript:x", "java script:x", "\xffjavascript:x", "javascript", "javascript&colon;x"} {
		for _, schemes := range [][]string{nil, {}, {""}, {"javascript"}, web} {
			if !Safe(s, schemes) {
				t.Errorf("Safe(%q, %q): it has no scheme", s, schemes)
			}
		}
	}
	for _, s := range []string{"http:x", "https://h", "mailto:a@b", "Http:x", "HTTP:x", " \nht\ttp\r:x", "http:javascript:x"} {
		if !Safe(s, web) {
			t.Errorf("Safe(%q): not safe", s)
		}
		for _, schemes := range [][]string{nil, {}, {""}, {"javascript"}, {"HTTP", "HTTPS", "MAILTO"}, {"http:", " http", "htt", "httpx", "mail", "https:"}} {
			if Safe(s, schemes) {
				t.Errorf("Safe(%q, %q): safe", s, schemes)
			}
		}
	}
	for _, s := range []string{"javascript:x", "JavaScript:x", "java\nscript:x", "\x00javascript:x", " javascript:x", "javascript\t:x", "data:x", "vbscript:x", "httpx:x", "htt:x", "a:", "http.s:x", "http+:x"} {
		if Safe(s, web) || Safe(s, nil) {
			t.Errorf("Safe(%q): safe", s)
		}
	}
	if !Safe("a:b", []string{"x", "A", "a", "a"}) || Safe("a:b", []string{"x", "A"}) {
		t.Error("Safe of one among several")
	}
}

// Rule R3: what is handed in is as it was, spare room too; rule R6: the same call tells the same.
func TestSafeLeaves(t *testing.T) {
	room := []string{"http", "B", "", "spare"}
	schemes := room[:3]
	for range 2 {
		if !Safe("http:x", schemes) || Safe("b:x", schemes) || Safe("spare:x", schemes) {
			t.Error("Safe")
		}
	}
	if !slices.Equal(room, []string{"http", "B", "", "spare"}) {
		t.Errorf("the schemes are %q", room)
	}
}

// Promise 15.3: Join of Split is the plain form, but for the size of the scheme's letters.
func TestJoinOfSplit(t *testing.T) {
	for _, s := range many() {
		p := Split(s)
		want := Plain(s)
		if p.HasScheme {
			n := len(p.Scheme)
			want = strings.ToLower(want[:n]) + want[n:]
		}
		got := Join(p)
		if got != want {
			t.Fatalf("Join(Split(%q)): %q; want %q", s, got, want)
		}
		if Split(got) != p {
			t.Fatalf("Split(%q): %+v; of %q it was %+v", got, Split(got), s, p)
		}
	}
}

// Promise 15.3: what is put into an address, line's ends and tabs anywhere, and bytes up to 32 at its ends, changes nothing of where it leads.
func TestPutIn(t *testing.T) {
	for _, s := range []string{"javascript:x", "HTTP://a.b/c?d#e", "//h\\p", "a:b", "/x:y", "?a#b", "1a:b", "x+-.1://h", "\xff:\xc3\xa9", ""} {
		p := Split(s)
		hold := func(put string) {
			t.Helper()
			if got := Split(put); got != p {
				t.Errorf("Split(%q): %+v; of %q it is %+v", put, got, s, p)
			}
			if got := Plain(put); got != Plain(s) {
				t.Errorf("Plain(%q): %q; of %q it is %q", put, got, s, Plain(s))
			}
			for _, schemes := range [][]string{nil, {"http"}, {"javascript", "a"}} {
				if Safe(put, schemes) != Safe(s, schemes) {
					t.Errorf("Safe(%q, %q): %v; of %q it is not", put, schemes, Safe(put, schemes), s)
				}
			}
		}
		for _, in := range []string{"\t", "\n", "\r", "\r\n", "\n\n\t"} {
			for i := range len(s) + 1 {
				hold(s[:i] + in + s[i:])
			}
			hold(in + strings.Join(strings.Split(s, ""), in) + in)
		}
		for b := range byte(33) {
			end := string([]byte{b})
			hold(end + s)
			hold(s + end)
			hold(end + "\n" + end + s + "\r" + end)
		}
	}
}

// Example of the chapter, as it is told.
func Example() {
	fmt.Println(Scheme("Java\nScript:x"))
	p := Split("//h/p?q#m")
	fmt.Println(p.Host, p.Path, p.Query, p.Mark)
	// Output:
	// javascript true
	// h /p q m
}
