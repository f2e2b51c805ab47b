package pen

import (
	"slices"
	"strconv"
	"strings"
	"testing"

	"recto/api"
	"recto/toks"
	"recto/utf"
)

// bads are texts that are not Good: bytes that are no character's, 0 and 13.
func bads() []string {
	return []string{"\x00", "\r", "a\x00b", "a\r\nb", "\xff", "a\xe2\x82", "\x80", "\xc0\x80", "\xed\xa0\x80", "\xf4\x90\x80\x80"}
}

// noNames are texts that are no names.
func noNames() []string {
	return []string{
		"", "A", "aB", "1", "1a", "-", "-a", ":", ":a", "a_", "a.", "a b", " a", "a ", "a=", "a/", "a>", "<a", "a\"", "a'", "a&", "a\x00", "a\n", "a\r", "\xc3\xa9", "a\xc3\xa9", "a\xff", "`", "{", "a`", "a{", "a;", "a@", "a[",
		strings.Repeat("a", api.MaxName+1), strings.Repeat("a", 9000),
	}
}

// names are names: the shortest, the longest, and those with each kind of byte.
func names() []string {
	return []string{"a", "z", "h1", "x-y", "xlink:href", "a-", "a:", "a0", "a9", "a--::09az", strings.Repeat("z", api.MaxName), "a" + strings.Repeat("-", api.MaxName-1)}
}

// attrs are that many attributes, each of another name.
func attrs(n int) []api.Attr {
	var l []api.Attr
	for i := range n {
		l = append(l, api.Attr{Name: "n" + strconv.Itoa(i), Value: strconv.Itoa(i)})
	}
	return l
}

// texts are all texts of at most n of these parts, one behind the other.
func texts(n int, parts ...string) []string {
	all := []string{""}
	last := all
	for range n {
		var longer []string
		for _, s := range last {
			for _, p := range parts {
				longer = append(longer, s+p)
			}
		}
		all, last = append(all, longer...), longer
	}
	return all
}

// holdText asks for what a call of a text tells.
func holdText(t *testing.T, what, s string, got string, e api.Errno, want string, wantE api.Errno) {
	t.Helper()
	if got != want || e != wantE {
		t.Errorf("%s(%q): %q, %v; want %q, %v", what, s, got, e, want, wantE)
	}
}

// Promise 6.1: which texts are names.
func TestName(t *testing.T) {
	for _, s := range names() {
		if !Name(s) {
			t.Errorf("%q is a name", s)
		}
	}
	for _, s := range noNames() {
		if Name(s) {
			t.Errorf("%q is no name", s)
		}
	}
	for i := range 256 {
		b := string([]byte{byte(i)})
		first := i >= 'a' && i <= 'z'
		if Name(b) != first || Name(b+"a") != first {
			t.Errorf("the byte %d as the first: %v", i, Name(b))
		}
		other := first || i >= '0' && i <= '9' || i == '-' || i == ':'
		if Name("a"+b) != other || Name("a"+b+"a") != other {
			t.Errorf("the byte %d as another: %v", i, Name("a"+b))
		}
	}
}

// Promise 6.1: right, and without 0 and 13.
func TestGood(t *testing.T) {
	for _, s := range []string{"", "a", "\n\t\f\v \x01\x7f", "caf\xc3\xa9\xe2\x82\xac\xf0\x9f\x98\x80", "\xef\xbf\xbd", "<&>\"'", "\xc2\x80\xc2\x8d"} {
		if !Good(s) {
			t.Errorf("%q is good", s)
		}
	}
	for _, s := range bads() {
		if Good(s) || Good("x"+s) || Good(s+"x") {
			t.Errorf("%q is not good", s)
		}
	}
}

// Promise 6.1: a tag's text.
func TestOpen(t *testing.T) {
	for _, x := range []struct {
		name  string
		attrs []api.Attr
		want  string
	}{
		{"a", nil, "<a>"},
		{"a", []api.Attr{}, "<a>"},
		{"h1", []api.Attr{{Name: "b"}}, "<h1 b=\"\">"},
		{"a", []api.Attr{{Name: "href", Value: "x\"y"}}, "<a href=\"x&quot;y\">"},
		{"a", []api.Attr{{Name: "z", Value: "1"}, {Name: "b", Value: "2"}}, "<a z=\"1\" b=\"2\">"},
		{"a", []api.Attr{{Name: "b", Value: "<&>\xc2\xa0'\n"}}, "<a b=\"&lt;&amp;&gt;&nbsp;'\n\">"},
		{"a", []api.Attr{{Name: "a", Value: "\xe2\x82\xac"}}, "<a a=\"\xe2\x82\xac\">"},
		{strings.Repeat("z", api.MaxName), []api.Attr{{Name: strings.Repeat("y", api.MaxName)}}, "<" + strings.Repeat("z", api.MaxName) + " " + strings.Repeat("y", api.MaxName) + "=\"\">"},
	} {
		got, e := Open(x.name, x.attrs)
		holdText(t, "Open", x.name, got, e, x.want, api.OK)
	}
}

// Promise 6.1: what is no tag; as many attributes as MaxAttrs, and one more.
func TestOpenErrors(t *testing.T) {
	hold := func(name string, l []api.Attr, want api.Errno) {
		t.Helper()
		got, e := Open(name, l)
		if e != want || (got == "") != (want != api.OK) {
			t.Errorf("Open(%q, %q): %q, %v; want %v", name, l, got, e, want)
		}
	}
	for _, s := range noNames() {
		hold(s, nil, api.ErrForm)
		hold(s, attrs(1), api.ErrForm)
		hold("a", []api.Attr{{Name: s}}, api.ErrForm)
		hold("a", append(attrs(2), api.Attr{Name: s}), api.ErrForm)
	}
	for _, s := range bads() {
		hold("a", []api.Attr{{Name: "b", Value: s}}, api.ErrForm)
		hold("a", append([]api.Attr{{Name: "b", Value: s}}, attrs(2)...), api.ErrForm)
	}
	same := api.Attr{Name: "n0", Value: "other"}
	hold("a", append(attrs(1), same), api.ErrSame)
	hold("a", append(attrs(1), attrs(1)...), api.ErrSame)
	hold("a", append(attrs(api.MaxAttrs-1), same), api.ErrSame)
	hold("a", attrs(api.MaxAttrs-1), api.OK)
	hold("a", attrs(api.MaxAttrs), api.OK)
	hold("a", attrs(api.MaxAttrs+1), api.ErrLong)
	hold("a", attrs(100000), api.ErrLong)
	// Of more than one fault it is the one that the chapter tells first.
	hold("a", append(attrs(api.MaxAttrs), same), api.ErrSame)
	hold("a", append(attrs(100000), same), api.ErrSame)
	hold("a", append(attrs(api.MaxAttrs), api.Attr{}), api.ErrForm)
	hold("a", append(attrs(1), same, api.Attr{Name: "b", Value: "\r"}), api.ErrForm)
	hold("A", append(attrs(api.MaxAttrs), same), api.ErrForm)
}

// Promise 6.1: the tag that ends an element.
func TestClose(t *testing.T) {
	for _, s := range names() {
		got, e := Close(s)
		holdText(t, "Close", s, got, e, "</"+s+">", api.OK)
	}
	for _, s := range noNames() {
		got, e := Close(s)
		holdText(t, "Close", s, got, e, "", api.ErrForm)
	}
}

// Promise 6.2: characters' text.
func TestChars(t *testing.T) {
	for _, x := range []struct{ s, want string }{
		{"a", "a"},
		{"<b a=\"1\">&\xc2\xa0'", "&lt;b a=\"1\"&gt;&amp;&nbsp;'"},
		{"&lt;", "&amp;lt;"},
		{" \n", " \n"},
		{"\xe2\x82\xac\xef\xbf\xbd", "\xe2\x82\xac\xef\xbf\xbd"},
	} {
		got, e := Chars(x.s)
		holdText(t, "Chars", x.s, got, e, x.want, api.OK)
	}
	for _, s := range append(bads(), "") {
		got, e := Chars(s)
		holdText(t, "Chars", s, got, e, "", api.ErrForm)
	}
}

// Promise 6.2: what is read as it is, if the tag that ends it does not stand in it.
func TestRaw(t *testing.T) {
	for _, s := range []string{"", "a", "<b>&lt;</b>", "<style>", "</style", "</style</style", "</stylex>", "< /style>", "</ style>", "</styl>", "style>", "/style>", "<!--", "</style\v>", "</style=>", "</style\xc2\xa0>", "</STYLE", "\xe2\x82\xac\n"} {
		got, e := Raw(s, "style")
		holdText(t, "Raw", s, got, e, s, api.OK)
	}
	for _, s := range []string{"</style>", "</style ", "</style\t", "</style\n", "</style\f", "</style/", "a</STYLE >", "</sTyLe>b", "</stylex></style/", "</style</style>", "<</style>", "</</style>", "</style></style>"} {
		got, e := Raw(s, "style")
		holdText(t, "Raw", s, got, e, "", api.ErrForm)
	}
	for _, s := range bads() {
		got, e := Raw(s, "style")
		holdText(t, "Raw", s, got, e, "", api.ErrForm)
	}
	for _, name := range noNames() {
		got, e := Raw("a", name)
		holdText(t, "Raw", name, got, e, "", api.ErrForm)
	}
	got, e := Raw("</b></ab></a-></a:>", "a")
	holdText(t, "Raw", "of a", got, e, "</b></ab></a-></a:>", api.OK)
	// Many tags that nearly end it.
	s := strings.Repeat("</style", 100000)
	got, e = Raw(s, "style")
	if got != s || e != api.OK {
		t.Errorf("Raw: %d bytes, %v", len(got), e)
	}
}

// Promise 6.2: a comment's text.
func TestNote(t *testing.T) {
	for _, s := range []string{"", "a", "-a", "--a", "a-b", "a--b", "a>", " >", "a->", "-- >", "--!a", "!", "-!", "a-!", "a!>", "<!--a", "<b>&lt;\"", "a -- b", "\n", "\xe2\x82\xac", " - ", "--! "} {
		got, e := Note(s)
		holdText(t, "Note", s, got, e, "<!--"+s+"-->", api.OK)
	}
	for _, s := range []string{">", ">a", "->", "->a", "-", "--", "---", "a-", "a--", "-->", "a-->", "a-->b", "--!>", "a--!>b", "a--!>", "--!", "a--!", "a---!", "a--->b"} {
		got, e := Note(s)
		holdText(t, "Note", s, got, e, "", api.ErrForm)
	}
	for _, s := range bads() {
		got, e := Note(s)
		holdText(t, "Note", s, got, e, "", api.ErrForm)
	}
}

// holdRead asks what is read of a text: that token, and nothing else.
func holdRead(t *testing.T, text string, want toks.Token) {
	t.Helper()
	l := toks.All(text)
	if len(l) != 1 || !toks.Same(l[0], want) {
		t.Fatalf("%q is read as %+v; want %+v", text, l, want)
	}
	// It is read so with anything around it, too.
	l = toks.All("<i>" + text + "<i>")
	if len(l) != 3 || !toks.Same(l[1], want) {
		t.Fatalf("<i>%s<i> is read as %+v", text, l)
	}
}

// values are texts of what has a meaning somewhere.
func values() []string {
	return texts(4, "<", ">", "&", "amp", ";", "\"", "'", "/", " ", "=", "\xc2\xa0", "#65", "a")
}

// Promise 6.3: a tag is read with its attributes.
func TestTagsAreRead(t *testing.T) {
	for _, name := range names() {
		text, e := Open(name, attrs(api.MaxAttrs))
		if e != api.OK {
			t.Fatal(name, e)
		}
		holdRead(t, text, toks.Token{Kind: toks.Start, Name: name, Attrs: attrs(api.MaxAttrs)})
		text, e = Close(name)
		if e != api.OK {
			t.Fatal(name, e)
		}
		holdRead(t, text, toks.Token{Kind: toks.End, Name: name})
		l := []api.Attr{{Name: name, Value: name}}
		text, e = Open("b", l)
		if e != api.OK {
			t.Fatal(name, e)
		}
		holdRead(t, text, toks.Token{Kind: toks.Start, Name: "b", Attrs: l})
	}
	for _, v := range values() {
		l := []api.Attr{{Name: "b", Value: v}, {Name: "c", Value: v}}
		text, e := Open("a", l)
		if e != api.OK {
			t.Fatalf("%q: %v", v, e)
		}
		holdRead(t, text, toks.Token{Kind: toks.Start, Name: "a", Attrs: l})
	}
}

// Promise 6.3: characters are read as they were.
func TestCharsAreRead(t *testing.T) {
	all := values()[1:]
	for i := 1; i < 0x3000; i++ {
		if i != '\r' {
			all = append(all, utf.Bytes(i))
		}
	}
	for _, s := range all {
		text, e := Chars(s)
		if e != api.OK {
			t.Fatalf("%q: %v", s, e)
		}
		holdRead(t, text, toks.Token{Kind: toks.Chars, Text: s})
	}
}

// Promises 6.2, 6.3: a raw text is read as it is up to its end; what would not be is refused.
func TestRawIsRead(t *testing.T) {
	for _, s := range texts(5, "<", "/", "</", "b", "B", ">", " ", "-", "&lt;") {
		text, e := Raw(s, "b")
		m := toks.Mode{Kind: toks.Raw, Last: "b"}
		x, next := toks.Next(s+"</b>", 0, m)
		if s == "" {
			x, next = toks.Token{Kind: toks.Chars}, 0
		}
		just := toks.Same(x, toks.Token{Kind: toks.Chars, Text: s}) && next == len(s)
		if just != (e == api.OK) || just && text != s {
			t.Fatalf("Raw(%q): %q, %v; read: %+v, %d", s, text, e, x, next)
		}
		if last, _ := toks.Next(s+"</b>", len(s), m); just && !toks.Same(last, toks.Token{Kind: toks.End, Name: "b"}) {
			t.Fatalf("%q: %+v", s, last)
		}
	}
}

// Promises 6.2, 6.3: a comment is read with its text; what would not be is refused.
func TestNotesAreRead(t *testing.T) {
	for _, s := range texts(8, "-", "!", ">", "a") {
		text, e := Note(s)
		if e == api.OK {
			holdRead(t, text, toks.Token{Kind: toks.Note, Text: s})
			continue
		}
		l := toks.All("<!--" + s + "-->")
		read := len(l) == 1 && toks.Same(l[0], toks.Token{Kind: toks.Note, Text: s})
		// The chapter refuses what ends with - or --! in any case.
		if read && !strings.HasSuffix(s, "-") && !strings.HasSuffix(s, "--!") {
			t.Fatalf("Note(%q): %v", s, e)
		}
	}
}

// Rule R3: what is handed in is not changed, spare room too.
func TestOpenLeavesAttrs(t *testing.T) {
	l := attrs(3)
	before := slices.Clone(l)
	if _, e := Open("a", l[:2]); e != api.OK || !slices.Equal(l, before) {
		t.Errorf("%v, %v", e, l)
	}
}
