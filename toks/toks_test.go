package toks

import (
	"regexp"
	"slices"
	"strconv"
	"strings"
	"testing"

	"recto/api"
	"recto/refs"
)

const stranger = "\xef\xbf\xbd"

func start(name string, attrs ...api.Attr) Token {
	return Token{Kind: Start, Name: name, Attrs: attrs}
}

func selfStart(name string, attrs ...api.Attr) Token {
	return Token{Kind: Start, Name: name, Attrs: attrs, Self: true}
}

func end(name string) Token   { return Token{Kind: End, Name: name} }
func letters(s string) Token  { return Token{Kind: Chars, Text: s} }
func remark(s string) Token   { return Token{Kind: Note, Text: s} }
func at(n, v string) api.Attr { return api.Attr{Name: n, Value: v} }

// alike holds two tokens against each other, without the program's own Same.
func alike(a, b Token) bool {
	return a.Kind == b.Kind && a.Name == b.Name && a.Self == b.Self && a.Text == b.Text && slices.Equal(a.Attrs, b.Attrs)
}

func allAlike(a, b []Token) bool { return slices.EqualFunc(a, b, alike) }

// hold asks for all tokens of a text.
func hold(t *testing.T, s string, want ...Token) {
	t.Helper()
	if got := All(s); !allAlike(got, want) {
		t.Errorf("All(%q): %+v; want %+v", s, got, want)
	}
}

// holdNext asks for the next token of a text, and the place behind it.
func holdNext(t *testing.T, s string, from int, m Mode, want Token, next int) {
	t.Helper()
	if got, n := Next(s, from, m); !alike(got, want) || n != next {
		t.Errorf("Next(%q, %d, %+v): %+v, %d; want %+v, %d", s, from, m, got, n, want, next)
	}
}

// texts are all texts of at most n of these parts, one behind the other.
func texts(n int, parts ...string) []string {
	all := []string{""}
	last := all
	for range n {
		var longer []string
		for _, s := range last {
			for _, p := range parts {
				longer = append(longer, s+p)
			}
		}
		all, last = append(all, longer...), longer
	}
	return all
}

// joined has all Chars that stand side by side as one.
func joined(l []Token) []Token {
	var out []Token
	for _, x := range l {
		if n := len(out); n > 0 && x.Kind == Chars && out[n-1].Kind == Chars {
			out[n-1].Text += x.Text
			continue
		}
		out = append(out, x)
	}
	return out
}

// walk are all tokens from 0 on; it asks that each ends behind the place from which on it was asked, and that its fields are what its Kind has (promises 5.2, 5.3; rule R4).
func walk(t *testing.T, s string, m Mode) []Token {
	t.Helper()
	var all []Token
	for from := 0; from < len(s); {
		x, next := Next(s, from, m)
		if next <= from || next > len(s) || x.Kind == 0 && next != len(s) {
			t.Fatalf("Next(%q, %d, %+v): %+v, %d", s, from, m, x, next)
		}
		if !sound(x) {
			t.Fatalf("Next(%q, %d, %+v): %+v", s, from, m, x)
		}
		if x.Kind != 0 {
			all = append(all, x)
		}
		from = next
	}
	return all
}

func sound(x Token) bool {
	capital := func(s string) bool { return strings.ContainsAny(s, "ABCDEFGHIJKLMNOPQRSTUVWXYZ") }
	for i, a := range x.Attrs {
		if a.Name == "" || capital(a.Name) {
			return false
		}
		for _, b := range x.Attrs[:i] {
			if a.Name == b.Name {
				return false
			}
		}
	}
	switch x.Kind {
	case 0, Doctype:
		return alike(x, Token{Kind: x.Kind})
	case Start:
		return alike(x, Token{Kind: Start, Name: x.Name, Attrs: x.Attrs, Self: x.Self}) && x.Name != "" && !capital(x.Name)
	case End:
		return alike(x, Token{Kind: End, Name: x.Name}) && x.Name != "" && !capital(x.Name)
	case Chars:
		return alike(x, Token{Kind: Chars, Text: x.Text}) && x.Text != ""
	case Note:
		return alike(x, Token{Kind: Note, Text: x.Text})
	}
	return false
}

// Promise 5.1: the chapter's examples.
func TestExamples(t *testing.T) {
	hold(t, "<A b=1 B='2' c/>x", selfStart("a", at("b", "1"), at("c", "")), letters("x"))
	hold(t, "<!-->", remark(""))
}

// Promise 5.1: a place below 0, at the end and behind it is none, in each mode.
func TestPlaces(t *testing.T) {
	for _, m := range []Mode{{}, {Cdata: true}, {Kind: Title, Last: "a"}, {Kind: Raw, Last: "a"}, {Kind: 9}} {
		for _, s := range []string{"", "a", "<a>", "</a>"} {
			for _, from := range []int{-1 << 63, -2, -1, len(s), len(s) + 1, 1<<63 - 1} {
				holdNext(t, s, from, m, Token{}, len(s))
			}
		}
	}
	// A place within something is one as well.
	s := "x<a b>y"
	holdNext(t, s, 0, Mode{}, letters("x"), 1)
	holdNext(t, s, 1, Mode{}, start("a", at("b", "")), 6)
	holdNext(t, s, 2, Mode{}, letters("a b>y"), 7)
	holdNext(t, s, 6, Mode{}, letters("y"), 7)
	holdNext(t, "\xe2\x82\xac", 1, Mode{}, letters(stranger+stranger), 3)
	holdNext(t, "&lt;", 1, Mode{}, letters("lt;"), 4)
}

// Promise 5.1: a Kind of a mode that is none is Data, with its Cdata.
func TestOddKinds(t *testing.T) {
	for _, kind := range []int{Data, -1, 3, 4, 5, -1 << 63, 1<<63 - 1} {
		holdNext(t, "<b></a>", 0, Mode{Kind: kind, Last: "a"}, start("b"), 3)
		holdNext(t, "<![CDATA[<b>]]>c", 0, Mode{Kind: kind, Cdata: true}, letters("<b>"), 15)
		holdNext(t, "<![CDATA[<b>]]>c", 0, Mode{Kind: kind}, remark("[CDATA[<b"), 12)
	}
}

// Promise 5.1: characters, with their references, and each < that begins nothing.
func TestChars(t *testing.T) {
	hold(t, "")
	for _, s := range []string{"a", "<", "</", "<<", "<1", "< a>", "<>", "<=", "<-", "<\xff", "<\xc3\xa9", "<\x00", "a<", "a</", "a<1>b", ">", "/>", "-->", "]]>", "<[", "<@", "<`", "<{", "< /a>", "\n \t"} {
		hold(t, s, letters(refs.All(s, false)))
	}
	hold(t, "x&lt;&notit;", letters("x<\xc2\xacit;"))
	hold(t, "&lt;b&gt;", letters("<b>"))
	hold(t, "&#60;b>", letters("<b>"))
	hold(t, "<&#97;>", letters("<a>"))
	hold(t, "a\xffb\x00c\rd", letters("a"+stranger+"b\x00c\rd"))
	hold(t, "a<b>c", letters("a"), start("b"), letters("c"))
	hold(t, "<<b>", letters("<"), start("b"))
	hold(t, "a&am<b>p;", letters("a&am"), start("b"), letters("p;"))
	hold(t, "<</", letters("<</"))
	hold(t, "<</b>", letters("<"), end("b"))
	holdNext(t, "a&lt;<b>", 0, Mode{}, letters("a<"), 5)
}

// Promise 5.1: </> is passed over; what </ begins with another byte that is no letter is an odd comment.
func TestPassedOver(t *testing.T) {
	hold(t, "</>")
	hold(t, "</></>")
	hold(t, "a</>b", letters("a"), letters("b"))
	hold(t, "</></><b></>", start("b"))
	hold(t, "</></", letters("</"))
	hold(t, "</><a")
	holdNext(t, "</>", 0, Mode{}, Token{}, 3)
	holdNext(t, "</></>x", 0, Mode{}, letters("x"), 7)
	holdNext(t, "</><!-->", 0, Mode{}, remark(""), 8)
	holdNext(t, "</>x", 0, Mode{Cdata: true}, letters("x"), 4)
	hold(t, "</ a>b", remark(" a"), letters("b"))
	hold(t, "</1>", remark("1"))
	hold(t, "<//>", remark("/"))
	hold(t, "</<b>", remark("<b"))
	hold(t, "</ ", remark(" "))
	hold(t, "</&lt;", remark("&lt;"))
	hold(t, "</!-->", remark("!--"))
	// One after another, as many as there are.
	s := strings.Repeat("</>", 200000)
	holdNext(t, s, 0, Mode{}, Token{}, len(s))
}

// Promise 5.1: odd comments, to the next > or the end, as they are.
func TestOddComments(t *testing.T) {
	hold(t, "<?p>x", remark("?p"), letters("x"))
	hold(t, "<?>", remark("?"))
	hold(t, "<?", remark("?"))
	hold(t, "<?a&lt;\xff\x00\r", remark("?a&lt;\xff\x00\r"))
	hold(t, "<!>", remark(""))
	hold(t, "<!", remark(""))
	hold(t, "<!x>y", remark("x"), letters("y"))
	hold(t, "<!-x>", remark("-x"))
	hold(t, "<!->", remark("-"))
	hold(t, "<!-", remark("-"))
	hold(t, "<!- ->", remark("- -"))
	hold(t, "<! --x-->", remark(" --x--"))
	hold(t, "<!doctyp>", remark("doctyp"))
	hold(t, "<! doctype>", remark(" doctype"))
	hold(t, "<?x-->y", remark("?x--"), letters("y"))
}

// Promise 5.1: comments, each of their ends, and what is no end.
func TestComments(t *testing.T) {
	for _, x := range []struct {
		s, text string
		next    int
	}{
		{"<!-->", "", 5},
		{"<!--->", "", 6},
		{"<!---->", "", 7},
		{"<!----!>", "", 8},
		{"<!-->-->", "", 5},
		{"<!--->-->", "", 6},
		{"<!--a-->", "a", 8},
		{"<!--a--!>", "a", 9},
		{"<!--a--->", "a-", 9},
		{"<!--a---!>", "a-", 10},
		{"<!--a--!-->", "a--!", 11},
		{"<!--a--!--!>", "a--!", 12},
		{"<!--a--!>b-->", "a", 9},
		{"<!--a-->b--!>", "a", 8},
		{"<!--a>b->c--d-->", "a>b->c--d", 16},
		{"<!---!>-->", "-!>", 10},
		{"<!-- > -->", " > ", 10},
		{"<!--a<!--b-->", "a<!--b", 13},
		{"<!--a<!-->", "a<!", 10},
		{"<!--&lt;\xff\x00\r<b>-->", "&lt;\xff\x00\r<b>", 17},
		{"<!--", "", 4},
		{"<!---", "", 5},
		{"<!----", "", 6},
		{"<!-----", "-", 7},
		{"<!----!", "", 7},
		{"<!---!", "-!", 6},
		{"<!--!", "!", 5},
		{"<!--a", "a", 5},
		{"<!--a-", "a", 6},
		{"<!--a--", "a", 7},
		{"<!--a---", "a-", 8},
		{"<!--a--!", "a", 8},
		{"<!--a---!", "a-", 9},
		{"<!--a-!", "a-!", 7},
		{"<!--a--!-", "a--!", 9},
		{"<!--a--!--", "a--!", 10},
		{"<!--a--!--!", "a--!", 11},
		{"<!--a--!!", "a--!!", 9},
		{"<!--a-- >", "a-- >", 9},
		{"<!--a>", "a>", 6},
	} {
		holdNext(t, x.s, 0, Mode{}, remark(x.text), x.next)
	}
	hold(t, "<!--a--><!--b--!>c<!---->", remark("a"), remark("b"), letters("c"), remark(""))
	// Many comments that end in one of the ways: the other is not sought for through all of the text each time.
	for _, mark := range []string{"-->", "--!>"} {
		s := strings.Repeat("<!--a"+mark, 100000)
		if l := All(s); len(l) != 100000 || !alike(l[99999], remark("a")) {
			t.Errorf("%d comments", len(l))
		}
	}
}

// Promise 5.1: Doctype, in letters of any size.
func TestDoctype(t *testing.T) {
	for _, s := range []string{"<!doctype html>", "<!DOCTYPE HTML>", "<!DocType>", "<!doctypehtml>", "<!doctype", "<!dOcTyPe x", "<!doctype a \"b\" 'c>"} {
		hold(t, s, Token{Kind: Doctype})
		holdNext(t, s, 0, Mode{Cdata: true}, Token{Kind: Doctype}, len(s))
	}
	hold(t, "<!doctype \">\">x", Token{Kind: Doctype}, letters("\">x"))
	hold(t, "<!doctyp", remark("doctyp"))
	hold(t, "<doctype>", start("doctype"))
}

// Promise 5.1: <![CDATA[ with Cdata and without, empty too.
func TestCdata(t *testing.T) {
	with := Mode{Cdata: true}
	holdNext(t, "<![CDATA[a]]>b", 0, with, letters("a"), 13)
	holdNext(t, "<![CDATA[<b>&lt;\xff]]>", 0, with, letters("<b>&lt;\xff"), 20)
	holdNext(t, "<![CDATA[a]]]>", 0, with, letters("a]"), 14)
	holdNext(t, "<![CDATA[a]] >", 0, with, letters("a]] >"), 14)
	holdNext(t, "<![CDATA[a]]", 0, with, letters("a]]"), 12)
	holdNext(t, "<![CDATA[a", 0, with, letters("a"), 10)
	holdNext(t, "<![CDATA[>]]>", 0, with, letters(">"), 13)
	holdNext(t, "<![CDATA[]]>", 0, with, Token{}, 12)
	holdNext(t, "<![CDATA[", 0, with, Token{}, 9)
	holdNext(t, "<![CDATA[]]>b", 0, with, letters("b"), 13)
	holdNext(t, "<![CDATA[]]></><![CDATA[]]><b>", 0, with, start("b"), 30)
	holdNext(t, "x<![CDATA[a]]>", 0, with, letters("x"), 1)
	for _, s := range []string{"<![cdata[a]]>", "<![CDATa[a]]>", "<! [CDATA[a]]>", "<![CDATA a]]>"} {
		holdNext(t, s, 0, with, remark(s[2:len(s)-1]), len(s))
	}
	holdNext(t, "<![CDATA", 0, with, remark("[CDATA"), 8)
	hold(t, "<![CDATA[a]]>b", remark("[CDATA[a]]"), letters("b"))
	hold(t, "<![CDATA[]]>", remark("[CDATA[]]"))
	hold(t, "<![CDATA[a>b]]>", remark("[CDATA[a"), letters("b]]>"))
	hold(t, "<![CDATA[", remark("[CDATA["))
	s := strings.Repeat("<![CDATA[]]>", 100000)
	holdNext(t, s, 0, with, Token{}, len(s))
}

// Promise 5.1: tags and their names.
func TestTags(t *testing.T) {
	hold(t, "<a>", start("a"))
	hold(t, "</a>", end("a"))
	hold(t, "<A></A>", start("a"), end("a"))
	hold(t, "<Z9-:_\"'=<\xc3\x89\xff\x00&lt;>", start("z9-:_\"'=<\xc3\x89\xff\x00&lt;"))
	hold(t, "<a\rb>", start("a\rb"))
	hold(t, "<a\vb>", start("a\vb"))
	for _, space := range []string{" ", "\t", "\n", "\f", " \t\n\f "} {
		hold(t, "<a"+space+">x", start("a"), letters("x"))
		hold(t, "<a"+space+"b>", start("a", at("b", "")))
		hold(t, "</a"+space+">", end("a"))
	}
	hold(t, "<"+strings.Repeat("X", 9000)+">", start(strings.Repeat("x", 9000)))
	hold(t, "</p q=1 r='>'/>x", end("p"), letters("x"))
	hold(t, "</p/>", end("p"))
}

// Promise 5.1: a / within a tag, and ahead of its >.
func TestSlashes(t *testing.T) {
	hold(t, "<a/>", selfStart("a"))
	hold(t, "<a />", selfStart("a"))
	hold(t, "<a//>", selfStart("a"))
	hold(t, "<a/ />", selfStart("a"))
	hold(t, "<a/ >", start("a"))
	hold(t, "<a/b>", start("a", at("b", "")))
	hold(t, "<a/b/c/>", selfStart("a", at("b", ""), at("c", "")))
	hold(t, "<a /b / c>", start("a", at("b", ""), at("c", "")))
	hold(t, "<a b=1/>", start("a", at("b", "1/")))
	hold(t, "<a b=/>", start("a", at("b", "/")))
	hold(t, "<a b=1 />", selfStart("a", at("b", "1")))
	hold(t, "<a b='1'/>", selfStart("a", at("b", "1")))
	hold(t, "<a b=\"/>\">", start("a", at("b", "/>")))
	hold(t, "<a/=>", start("a", at("=", "")))
	hold(t, "<a b/=c>", start("a", at("b", ""), at("=c", "")))
}

// Promise 5.1: attributes without a value, with = and spaces around it, in each kind of quotes and without.
func TestAttributes(t *testing.T) {
	hold(t, "<a b>", start("a", at("b", "")))
	hold(t, "<a b c>", start("a", at("b", ""), at("c", "")))
	hold(t, "<a B-1:_=C>", start("a", at("b-1:_", "C")))
	for _, space := range []string{"", " ", "\n", "\t\f \n"} {
		for _, v := range []string{"1", "\"1\"", "'1'"} {
			hold(t, "<a b"+space+"="+space+v+space+">", start("a", at("b", "1")))
			hold(t, "<a b"+space+"="+space+v+" c>", start("a", at("b", "1"), at("c", "")))
		}
		hold(t, "<a b"+space+"="+space+">", start("a", at("b", "")))
		hold(t, "<a b"+space+"="+space+"\"\">", start("a", at("b", "")))
		hold(t, "<a b"+space+"="+space+"''>", start("a", at("b", "")))
	}
	hold(t, "<a b=c d>", start("a", at("b", "c"), at("d", "")))
	hold(t, "<a b= c=d>", start("a", at("b", "c=d")))
	hold(t, "<a b='1'c=\"2\"d>", start("a", at("b", "1"), at("c", "2"), at("d", "")))
	hold(t, "<a b='1'=c>", start("a", at("b", "1"), at("=c", "")))
	hold(t, "<a b='\"'c=\"'\">", start("a", at("b", "\""), at("c", "'")))
	hold(t, "<a b=c\"d'e`=<f>", start("a", at("b", "c\"d'e`=<f")))
	hold(t, "<a b=' <c d> \n'>", start("a", at("b", " <c d> \n")))
	hold(t, "<a =>", start("a", at("=", "")))
	hold(t, "<a =b>", start("a", at("=b", "")))
	hold(t, "<a ==b>", start("a", at("=", "b")))
	hold(t, "<a =b=c>", start("a", at("=b", "c")))
	hold(t, "<a \"b\">", start("a", at("\"b\"", "")))
	hold(t, "<a 'b'=c <d>", start("a", at("'b'", "c"), at("<d", "")))
	hold(t, "<a b\x00\xff\r=\x00\r>", start("a", at("b\x00\xff\r", "\x00\r")))
}

// Promise 5.1: a value has its references, as values have them; names have none.
func TestValuesReferences(t *testing.T) {
	const v = "&amp;&lt;x&notit;&copy=1&#65&quot;\xff"
	want := refs.All(v, true)
	for _, s := range []string{v, "'" + v + "'", "\"" + v + "\""} {
		hold(t, "<a b="+s+">", start("a", at("b", want)))
	}
	hold(t, "<a b=&copy>", start("a", at("b", "\xc2\xa9")))
	hold(t, "<a b='&copy'c>", start("a", at("b", "\xc2\xa9"), at("c", "")))
	hold(t, "<a b=&gt;c>", start("a", at("b", ">c")))
	hold(t, "<a &lt;=1>", start("a", at("&lt;", "1")))
}

// Promises 5.1, 5.3: of two attributes of one name the first one stays, whatever its letters' size.
func TestAttributeTwice(t *testing.T) {
	hold(t, "<a b b>", start("a", at("b", "")))
	hold(t, "<a b=1 b=2 b=3>", start("a", at("b", "1")))
	hold(t, "<a Bc=1 bC=2 d=3 BC>", start("a", at("bc", "1"), at("d", "3")))
	hold(t, "<a b b=2>", start("a", at("b", "")))
	hold(t, "<a b=1 b=2/>", start("a", at("b", "1")))
	hold(t, "<a b='1'b='2'/>", selfStart("a", at("b", "1")))
	hold(t, "<a \xc3\x89 \xc3\xa9>", start("a", at("\xc3\x89", ""), at("\xc3\xa9", "")))
	// Very many of them, without a limit of this layer's own.
	var s strings.Builder
	s.WriteString("<a")
	for i := range 100000 {
		s.WriteString(" x" + strconv.Itoa(i))
	}
	s.WriteString(">")
	l := All(s.String())
	if len(l) != 1 || len(l[0].Attrs) != 100000 {
		t.Errorf("%d tokens", len(l))
	}
}

// Promise 5.1: a tag that the text ends in is none.
func TestTagWithoutEnd(t *testing.T) {
	for _, s := range []string{
		"<a", "</a", "<a ", "<a/", "<a /", "</a/", "<a b", "<a b ", "<a b=", "<a b= ", "<a b =", "<a b=c", "<a b=c ", "<a b=c/", "<a b='", "<a b=\"", "<a b='c", "<a b=\"c>", "<a b='>\">", "<a b='c'", "<a b='c' ", "<a b='c'/", "</a b='>", "<a =", "<a b=1 b",
	} {
		hold(t, s)
		hold(t, "x"+s, letters("x"))
		holdNext(t, s, 0, Mode{}, Token{}, len(s))
		holdNext(t, "<b>"+s, 3, Mode{Cdata: true}, Token{}, 3+len(s))
	}
	hold(t, "<a <b>", start("a", at("<b", "")))
	hold(t, "</><a b='<b>")
}

// Promises 5.1, 5.4: Title and Raw, up to the tag that ends it.
func TestTitleAndRaw(t *testing.T) {
	for _, kind := range []int{Title, Raw} {
		m := Mode{Kind: kind, Last: "title"}
		for _, space := range []string{" ", "\t", "\n", "\f", "/", ">"} {
			holdNext(t, "a</title"+space+">", 0, m, letters("a"), 1)
		}
		holdNext(t, "</title>x", 0, m, end("title"), 8)
		holdNext(t, "</TiTlE a='>' b/>x", 0, m, end("title"), 17)
		holdNext(t, "</title", 0, m, letters("</title"), 7)
		holdNext(t, "</title ", 0, m, Token{}, 8)
		holdNext(t, "</title/", 0, m, Token{}, 8)
		holdNext(t, "x</title a='>", 1, m, Token{}, 13)
		for _, s := range []string{"a", "<", "</", "</>", "<a>", "</a>", "<title>", "< /title>", "</ title>", "</titlex>", "</titl>", "</title\r>", "</title\v>", "</title=>", "</title</title", "<!--x-->", "<!doctype>", "<?x>", "<![CDATA[x]]>", "<a b='</titl>'>"} {
			holdNext(t, s, 0, m, letters(s), len(s))
			holdNext(t, s+"</title>", 0, m, letters(s), len(s))
			holdNext(t, "</title>"+s+"</title>", 8, m, letters(s), 8+len(s))
		}
		holdNext(t, "<!--</title>-->", 0, m, letters("<!--"), 4)
		holdNext(t, "<a b='</title>'>", 0, m, letters("<a b='"), 6)
	}
	holdNext(t, "&lt;\xff&notit;</title>", 0, Mode{Kind: Title, Last: "title"}, letters("<"+stranger+"\xc2\xacit;"), 12)
	holdNext(t, "&lt;\xff&notit;</title>", 0, Mode{Kind: Raw, Last: "title"}, letters("&lt;\xff&notit;"), 12)
	holdNext(t, "&lt;/title>", 0, Mode{Kind: Title, Last: "title"}, letters("</title>"), 11)
	holdNext(t, "<![CDATA[a]]></b>", 0, Mode{Kind: Raw, Last: "b", Cdata: true}, letters("<![CDATA[a]]>"), 13)
}

// Promise 5.1: a Last that is empty, or that is no small form, ends nothing; one of other bytes than letters does.
func TestOddLasts(t *testing.T) {
	for _, kind := range []int{Title, Raw} {
		for _, s := range []string{"</>", "</ >", "<//>", "a</b>", "x"} {
			holdNext(t, s, 0, Mode{Kind: kind}, letters(s), len(s))
		}
		for _, s := range []string{"</A>", "</a>"} {
			holdNext(t, s, 0, Mode{Kind: kind, Last: "A"}, letters(s), 4)
		}
		holdNext(t, "</1>x", 0, Mode{Kind: kind, Last: "1"}, end("1"), 4)
		holdNext(t, "x</H1>", 0, Mode{Kind: kind, Last: "h1"}, letters("x"), 1)
		holdNext(t, "</A b >x", 0, Mode{Kind: kind, Last: "a b"}, end("a"), 7)
		holdNext(t, "</\xff>", 0, Mode{Kind: kind, Last: "\xff"}, end("\xff"), 4)
		holdNext(t, "x</title>", 0, Mode{Kind: kind, Last: strings.Repeat("t", 5000)}, letters("x</title>"), 9)
	}
}

// Promise 5.1: whether two tokens are the same.
func TestSame(t *testing.T) {
	l := []Token{
		{}, {Kind: Doctype}, {Kind: Note}, {Kind: 9}, {Kind: Start},
		start("a"), selfStart("a"), start("b"), end("a"),
		start("a", at("b", "")), start("a", at("b", "1")), start("a", at("c", "1")), start("a", at("b", "1"), at("c", "1")), start("a", at("c", "1"), at("b", "1")), selfStart("a", at("b", "1")),
		letters("a"), letters("b"), remark("a"), letters("A"), letters("a\xff"),
	}
	for i, a := range l {
		for j, b := range l {
			b.Attrs = append([]api.Attr{}, b.Attrs...)
			if Same(a, b) != (i == j) {
				t.Errorf("Same(%+v, %+v): %v", a, b, Same(a, b))
			}
		}
	}
	// A list without an element is nil or empty (rule R2).
	if !Same(Token{Kind: Start, Name: "a"}, Token{Kind: Start, Name: "a", Attrs: []api.Attr{}}) {
		t.Error("nil and empty")
	}
}

// Promise 5.1: the tokens are those that the standard's machine tells, of many small texts.
func TestMachine(t *testing.T) {
	var all []string
	all = append(all, texts(5, "<", "/", ">", "!", "?", "-", "a", " ")...)
	for _, s := range texts(5, " ", "/", ">", "=", "\"", "'", "b", "B") {
		all = append(all, "<A"+s, "</a"+s+">")
	}
	for _, s := range texts(7, "-", "!", ">", "a") {
		all = append(all, "<!--"+s)
	}
	all = append(all, texts(5, "<![CDATA[", "]", "]]>", "<!", "Doctype", "a", ">")...)
	for _, s := range all {
		for _, cdata := range []bool{false, true} {
			want := run(s, cdata)
			if got := joined(walk(t, s, Mode{Cdata: cdata})); !allAlike(got, want) {
				t.Fatalf("%q, %v: %+v; want %+v", s, cdata, got, want)
			}
		}
		if got, want := All(s), walk(t, s, Mode{}); !allAlike(got, want) {
			t.Fatalf("All(%q): %+v; want %+v", s, got, want)
		}
	}
}

// Promises 5.2 to 5.4: in Title and Raw there are characters and the tag that ends it, of many small texts.
func TestEnclosed(t *testing.T) {
	ends := regexp.MustCompile("</[aA][bB][\t\n\f />]")
	for _, s := range texts(6, "<", "/", ">", "a", "B", " ", "</Ab", "'") {
		for _, kind := range []int{Title, Raw} {
			m := Mode{Kind: kind, Last: "ab"}
			for _, x := range walk(t, s, m) {
				if x.Kind != Chars && !(x.Kind == End && x.Name == "ab") {
					t.Fatalf("%q: %+v", s, x)
				}
			}
			x, next := Next(s, 0, m)
			place := ends.FindStringIndex(s)
			switch {
			case s == "" || place != nil && place[0] == 0:
				if x.Kind == Chars {
					t.Fatalf("%q: %+v", s, x)
				}
			case place == nil:
				if x.Text != s || next != len(s) {
					t.Fatalf("%q: %+v, %d", s, x, next)
				}
			case x.Text != s[:place[0]] || next != place[0]:
				t.Fatalf("%q: %+v, %d", s, x, next)
			}
		}
	}
}

// Promises 5.2, 5.3, and that a call ends: from each place of odd texts, in each mode.
func TestEveryPlace(t *testing.T) {
	s := "x&lt;<A b=1 B='2' c = \"&amp;\"/>y</p q=1/><!--a--!><!-->z<!---><!doctype html><?p></ q><![CDATA[r]]></><u a=b/><\xff\x00\r<b\xff \x00=\xff></TITLE >&<!--a--!<![CDATA[]]></"
	for from := -2; from <= len(s)+2; from++ {
		for n := 0; n <= len(s); n++ {
			for _, m := range []Mode{{}, {Cdata: true}, {Kind: Title, Last: "title"}, {Kind: Raw, Last: "p"}, {Kind: Raw}} {
				x, next := Next(s[:n], from, m)
				none := from < 0 || from >= n
				if !sound(x) || next > n || none && (x.Kind != 0 || next != n) || !none && next <= from || x.Kind == 0 && next != n {
					t.Fatalf("Next(%q, %d, %+v): %+v, %d", s[:n], from, m, x, next)
				}
			}
		}
	}
}

// Rules R3, R6: an answer's lists are new, and the same call tells the same.
func TestAnswersAreNew(t *testing.T) {
	const s = "<a b=1 c=2 d=3><e>"
	one, other := All(s), All(s)
	one[0].Attrs[0].Value = "x"
	_ = append(one[0].Attrs[:1], at("y", ""))
	one[1] = Token{}
	want := []Token{start("a", at("b", "1"), at("c", "2"), at("d", "3")), start("e")}
	if !allAlike(other, want) || !allAlike(All(s), want) {
		t.Errorf("%+v", other)
	}
}
