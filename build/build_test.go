package build

import (
	"math/rand"
	"strings"
	"testing"

	"recto/api"
	"recto/tags"
	"recto/utf"
)

// show is nodes in short: words as they are, !comments!, and names with attributes and, in brackets, kids.
func show(l []api.Node) string {
	s := ""
	for _, n := range l {
		switch n.Kind {
		case api.Text:
			s += n.Text
		case api.Comment:
			s += "!" + n.Text + "!"
		case api.Element:
			s += []string{"", "svg:", "math:"}[n.Space] + n.Name
			for _, a := range n.Attrs {
				s += " " + a.Name + "=" + a.Value
			}
			s += "(" + show(n.Kids) + ")"
		default:
			s += "?"
		}
	}
	return s
}

// count is how many nodes there are, deep is how deep elements lie.
func count(l []api.Node) int {
	n := len(l)
	for _, x := range l {
		n += count(x.Kids)
	}
	return n
}

func deep(l []api.Node) int {
	d := 0
	for _, x := range l {
		if x.Kind == api.Element {
			d = max(d, 1+deep(x.Kids))
		}
	}
	return d
}

// sound fails, if promise 12.3 is broken.
func sound(t testing.TB, s string, l []api.Node) {
	t.Helper()
	if n, d := count(l), deep(l); n > 300 || d > 40 {
		t.Fatalf("Parse(%q): %d nodes, %d deep", s, n, d)
	}
	var see func(l []api.Node)
	see = func(l []api.Node) {
		for i, n := range l {
			if n.Kind == api.Text && i > 0 && l[i-1].Kind == api.Text {
				t.Fatalf("Parse(%q): texts side by side: %s", s, show(l))
			}
			if n.Kind == api.Text && n.Text == "" {
				t.Fatalf("Parse(%q): a text without words: %s", s, show(l))
			}
			if n.Kind != api.Element && (len(n.Kids) > 0 || len(n.Attrs) > 0 || n.Name != "" || n.Space != 0) {
				t.Fatalf("Parse(%q): more than a text, or a comment: %v", s, n)
			}
			if n.Kind == api.Element && (n.Text != "" || n.Name == "") {
				t.Fatalf("Parse(%q): an element with words, or without a name: %v", s, n)
			}
			if n.Kind == api.Element && n.Space == api.HTML && tags.Void(n.Name) && len(n.Kids) > 0 {
				t.Fatalf("Parse(%q): something below %s", s, n.Name)
			}
			see(n.Kids)
		}
	}
	see(l)
}

// makes fails, if a text makes other nodes.
func makes(t testing.TB, s, want string) {
	t.Helper()
	l, err := Parse(s)
	if got := show(l); got != want || err != api.OK {
		t.Errorf("Parse(%q):\n%s, %v; want\n%s", s, got, err, want)
	}
	sound(t, s, l)
}

// refuses fails, if a text makes nodes, or another error.
func refuses(t testing.TB, what, s string, want api.Errno) {
	t.Helper()
	if l, err := Parse(s); err != want || len(l) > 0 {
		t.Errorf("%s: %d nodes, %v; want %v", what, count(l), err, want)
	}
}

// example is a text, and the nodes that it makes.
type example struct{ s, want string }

// all runs examples.
func all(t *testing.T, l []example) {
	t.Helper()
	for _, x := range l {
		makes(t, x.s, x.want)
	}
}

// with are examples of a pattern for each name, which stands where the pattern has an @.
func with(t *testing.T, names, s, want string) {
	t.Helper()
	for _, n := range strings.Fields(names) {
		makes(t, strings.ReplaceAll(s, "@", n), strings.ReplaceAll(want, "@", n))
	}
}

// Promise 12.1: the chapter's examples, and those of the whole.
func TestExamples(t *testing.T) {
	all(t, []example{
		{"<b>1<p>2</b>3", "b(1)p(b(2)3)"},
		{"<table>a<td>b", "atable(tbody(tr(td(b))))"},
		{"<p>a<p>b", "p(a)p(b)"},
	})
	refuses(t, "41 deep", strings.Repeat("<x>", 41), api.ErrDeep)
}

// Promise 12.1: tokens, one behind the other; doctypes are passed over; a tag that is cut off is none.
func TestTokens(t *testing.T) {
	all(t, []example{
		{"", ""},
		{"a", "a"},
		{" \n", " \n"},
		{"<!--a-->b<!--c-->", "!a!b!c!"},
		{"<p>a<!--x-->b", "p(a!x!b)"},
		{"<!doctype html>a<!DOCTYPE x>b", "ab"},
		{"<p>a<!doctype html>b", "p(ab)"},
		{"<table><!doctype html>", "table()"},
		{"<svg><!doctype html>a", "svg:svg(a)"},
		{"a</>b", "ab"},
		{"a<3<", "a<3<"},
		{"a<?b>c", "a!?b!c"},
		{"a</ b>c", "a! b!c"},
		{"<![CDATA[a]]>", "![CDATA[a]]!"},
		{"&lt;p>&amp;", "<p>&"},
		{"a<b", "a"},
		{"<p>a</p", "p(a)"},
		{"<p>a<p x='", "p(a)"},
		{"<p>a<p x=y", "p(a)"},
		{"<", "<"},
		{"</", "</"},
		{"<!", "!!"},
		{"<!--", "!!"},
		{"<p x=1 X=2 y='a\"b' z>a", "p x=1 y=a\"b z=(a)"},
		{"<P>a</P>b", "p(a)b"},
		{"<p/>a", "p(a)"},
		{"<b/>a", "b(a)"},
		{"<x/>a</x/ y=1>b", "x(a)b"},
		{"<p>a</p x=1>b", "p(a)b"},
	})
}

// Promise 12.1: bytes that chars.Ready would change stay in Parse; what is no UTF-8 is what the tokens make of it.
func TestOddBytes(t *testing.T) {
	all(t, []example{
		{"a\x00b\r\nc\xff", "a\x00b\r\nc\xef\xbf\xbd"},
		{"<p\xff>\xfe</p\xff>b", "p\xff(\xef\xbf\xbd)b"},
		{"<p x\x00=\xff>", "p x\x00=\xef\xbf\xbd()"},
		{"<!--\xc3-->", "!\xc3!"},
		{"<pre>\r\na", "pre(\r\na)"},
		{"<table>\r", "\rtable()"},
		{"<table>\x00", "\x00table()"},
		{"<title>\xff</title>", "title(\xef\xbf\xbd)"},
		{"<style>\xff</style>", "style(\xff)"},
		{"<svg><![CDATA[\xff]]>", "svg:svg(\xff)"},
		{"<b\x00>a</b>c", "b\x00(ac)"},
	})
}

// Promise 12.1: Ready: chars.Ready's error, or Parse of what is ready.
func TestReady(t *testing.T) {
	for _, x := range []example{
		{"", ""},
		{"a\r\nb\rc", "a\nb\nc"},
		{"a\x00", "a\xef\xbf\xbd"},
		{"<p>\xff", "p(\xef\xbf\xbd)"},
		{"<pre>\r\na", "pre(a)"},
		{"<b>1<p>2</b>3", "b(1)p(b(2)3)"},
		{strings.Repeat("a", 4000), strings.Repeat("a", 4000)},
	} {
		l, err := Ready(x.s)
		if got := show(l); got != x.want || err != api.OK {
			t.Errorf("Ready(%q): %s, %v", x.s, got, err)
		}
		sound(t, x.s, l)
	}
	for _, x := range []struct {
		s    string
		want api.Errno
	}{
		{strings.Repeat("a", 4001), api.ErrLong},
		{strings.Repeat("<x>", 1400), api.ErrLong},
		{strings.Repeat("<x>", 41), api.ErrDeep},
		{strings.Repeat("<br>", 301), api.ErrMany},
	} {
		if l, err := Ready(x.s); err != x.want || len(l) > 0 {
			t.Errorf("Ready of %d bytes: %v, %v; want %v", len(x.s), show(l), err, x.want)
		}
	}
}

// Limits: MaxNodes nodes, and one more, of each kind, and wherever they lie.
func TestMany(t *testing.T) {
	fill := func(n int, one, between string) string {
		return strings.TrimSuffix(strings.Repeat(one+between, n), between)
	}
	for _, x := range []struct {
		what, s string
		nodes   int
	}{
		{"elements", fill(300, "<br>", ""), 300},
		{"comments", fill(300, "<!---->", ""), 300},
		{"texts and elements", fill(150, "a<br>", ""), 300},
		{"below one", "<p>" + fill(299, "<br>", ""), 300},
		{"p with texts", fill(150, "<p>a", ""), 300},
		{"li", "<ul>" + fill(299, "<li>", ""), 300},
		{"rows", "<table><tbody>" + fill(298, "<tr>", ""), 300},
		{"fostered ones", "<table>" + fill(299, "<hr>", ""), 300},
		{"begun anew", fill(100, "<p><b>a</p>", "</b>"), 300},
		{"of SVG", "<svg>" + fill(299, "<g/>", ""), 300},
	} {
		l, err := Parse(x.s)
		if count(l) != x.nodes || err != api.OK {
			t.Errorf("%s: %d, %v; want %d", x.what, count(l), err, x.nodes)
		}
		refuses(t, x.what+" and one more", "<!--x-->"+x.s, api.ErrMany)
	}
	for _, n := range []int{301, 598, 599, 600, 601, 5000} {
		refuses(t, "more", strings.Repeat("<br>", n), api.ErrMany)
		refuses(t, "more comments", strings.Repeat("<!---->", n), api.ErrMany)
		refuses(t, "more words", strings.Repeat("a<br>", n), api.ErrMany)
		refuses(t, "more below a table", "<table>"+strings.Repeat("a<!---->", n), api.ErrMany)
	}
	// Words that are one text are one node, however often they come.
	makes(t, strings.Repeat("a</x>", 5000), strings.Repeat("a", 5000))
	makes(t, "<table>"+strings.Repeat("a</x>", 5000), strings.Repeat("a", 5000)+"table()")
}

// Limits: MaxDepth deep, and one more; words and comments lie no deeper than their element.
func TestDeep(t *testing.T) {
	nest := func(open, end string, n int, in string) string {
		return strings.Repeat(open, n) + in + strings.Repeat(end, n)
	}
	for _, x := range []struct{ open, name string }{
		{"<x>", "x"}, {"<div>", "div"}, {"<svg>", "svg:svg"}, {"<math>", "math:math"}, {"<b>", "b"}, {"<ul>", "ul"},
	} {
		makes(t, nest(x.open, "", 40, ""), nest(x.name+"(", ")", 40, ""))
		makes(t, nest(x.open, "", 40, "a<!--c-->"), nest(x.name+"(", ")", 40, "a!c!"))
		refuses(t, "41 "+x.name, nest(x.open, "", 41, ""), api.ErrDeep)
		refuses(t, "41 "+x.name+" that ended", nest(x.open, "</"+strings.Trim(x.open, "<>")+">", 41, "")+"a", api.ErrDeep)
	}
	refuses(t, "br", nest("<x>", "", 40, "<br>"), api.ErrDeep)
	makes(t, nest("<x>", "", 36, "<table><td>a"), nest("x(", ")", 36, "table(tbody(tr(td(a))))"))
	refuses(t, "td", nest("<x>", "", 37, "<table><td>a"), api.ErrDeep)
	// Where there are too many, too, that comes first.
	refuses(t, "deep and many", nest("<x>", "", 41, strings.Repeat("<br>", 260)), api.ErrMany)
	refuses(t, "deep and not many", nest("<x>", "", 41, strings.Repeat("<br>", 259)), api.ErrDeep)
}

// Limits: a full stack is ErrMany, also where elements would be too deep.
func TestStackFull(t *testing.T) {
	for _, tag := range []string{"<x>", "<div>", "<svg>", "<ul>", "<section>"} {
		refuses(t, "199 "+tag, strings.Repeat(tag, 199), api.ErrDeep)
		refuses(t, "200 "+tag, strings.Repeat(tag, 200), api.ErrMany)
		refuses(t, "200 "+tag+" that ended", strings.Repeat(tag, 200)+strings.Repeat("</"+tag[1:], 200), api.ErrMany)
		refuses(t, "199 and an x", strings.Repeat(tag, 199)+"<x/>", api.ErrMany)
		refuses(t, "199 and words", strings.Repeat(tag, 199)+"a", api.ErrDeep)
	}
	refuses(t, "199 and a br", strings.Repeat("<x>", 199)+"<br>", api.ErrMany)
	refuses(t, "198 and td", strings.Repeat("<x>", 196)+"<table><td>", api.ErrMany)
	refuses(t, "197 and td", strings.Repeat("<x>", 195)+"<table><td>", api.ErrDeep)
}

// formats are n formatting elements that are unlike one another.
func formats(n int) string {
	s := ""
	for i := range n {
		s += "<b x=" + strings.Repeat("1", i/10) + string(rune('0'+i%10)) + ">"
	}
	return s
}

// Limits: a full list of formatting elements is ErrMany, marks counted.
func TestListFull(t *testing.T) {
	refuses(t, "100", formats(100), api.ErrDeep)
	refuses(t, "101", formats(101), api.ErrMany)
	// Those that were cut off stand ahead of a mark, and lie no deeper.
	s := "<p>" + formats(35) + "</p><table><td><p>" + formats(34) + "</p><table><td><p>" + formats(29)
	if l, err := Parse(s); err != api.OK || count(l) != 109 || deep(l) != 39 {
		t.Errorf("100 in parts: %d, %d, %v", count(l), deep(l), err)
	}
	for _, more := range []string{"<i>", "<a>", "<b>", "<b x=1>", "</p><table><td>", "</p><table><caption>"} {
		refuses(t, "100 in parts and "+more, s+more, api.ErrMany)
	}
	for _, more := range []string{"<x>", "a", "<br>", "</b><i>", "</p><table><tr>"} {
		if l, err := Parse(s + more); err != api.OK {
			t.Errorf("100 in parts and %s: %d, %v", more, count(l), err)
		}
	}
}

// Promise 12.2: a text that has neither < nor & is one text, or nothing.
func TestNoMarkup(t *testing.T) {
	const bytes = "a \n\r\t\f\x00\xff\xc3>;'\"=/!-?#]"
	var grow func(s string)
	grow = func(s string) {
		l, err := Parse(s)
		if err != api.OK || s == "" && len(l) != 0 {
			t.Fatalf("Parse(%q): %s, %v", s, show(l), err)
		}
		if s != "" && (len(l) != 1 || l[0].Kind != api.Text || l[0].Text != utf.Clean(s)) {
			t.Fatalf("Parse(%q): %s", s, show(l))
		}
		sound(t, s, l)
		if len(s) == 4 {
			return
		}
		for i := range len(bytes) {
			grow(s + bytes[i:i+1])
		}
	}
	grow("")
	long := strings.Repeat("a b\n", 1<<18)
	if l, err := Parse(long); err != api.OK || len(l) != 1 || l[0].Text != long {
		t.Errorf("a long text: %d, %v", len(l), err)
	}
}

// Rule R3: no two lists of an answer share memory, and no answer another one's.
func TestNewMemory(t *testing.T) {
	const s = "<p><b x=1 y=2>1<p>2<p>3</b><table><b x=1>4<td>5<td>6"
	l, _ := Parse(s)
	want := show(l)
	other, _ := Parse(s)
	var grow, spoil func(l []api.Node)
	grow = func(l []api.Node) {
		for i := range l {
			grow(l[i].Kids)
			for j, x := 0, l[i].Attrs[len(l[i].Attrs):cap(l[i].Attrs)]; j < len(x); j++ {
				x[j].Name = "junk"
			}
		}
		for i, x := 0, l[len(l):cap(l)]; i < len(x); i++ {
			x[i].Name = "junk"
		}
	}
	if grow(l); show(l) != want {
		t.Errorf("spare room is shared: %s", show(l))
	}
	spoil = func(l []api.Node) {
		for i := range l {
			spoil(l[i].Kids)
			for j := range l[i].Attrs {
				l[i].Attrs[j].Value += "+"
			}
			l[i].Text += "+"
		}
	}
	spoil(l)
	if got := show(l); strings.Contains(got, "++") || strings.Count(got, "=1+") != strings.Count(want, "=1") {
		t.Errorf("two lists of an answer share memory: %s", got)
	}
	if show(other) != want {
		t.Errorf("two answers share memory: %s", show(other))
	}
	makes(t, s, want)
}

// Limits: the arena is full wherever a node is made, at the end of a format, too.
func TestArenaFull(t *testing.T) {
	for n := 570; n <= 600; n++ {
		ahead := strings.Repeat("<br>", n)
		for _, s := range []string{
			"<b><i><u><em><p>1</b>2<p>3", "<p><b><i><u></p>1", "<a><p><a>", "<table><td>", "<table>1<p>2<caption>", "<!--c--><svg><g>1", "<pre>\n</p>", "<b><div><div><div><div><div></b>",
		} {
			refuses(t, "full", ahead+s, api.ErrMany)
			refuses(t, "full", ahead+strings.Repeat(s, 9), api.ErrMany)
		}
	}
}

// Promises 12.1 and 12.3: rows of tags of all kinds, and of odd bytes; each makes the same twice, or an error that is named.
func TestRows(t *testing.T) {
	var tags []string
	for _, n := range strings.Fields(shells + " " + parts + " table " + blocks + " p " + heads + " pre li a " + forms + " " + lones + " hr title textarea script style xmp " + foreign + " image x y desc title mi span") {
		tags = append(tags, "<"+n+">", "</"+n+">", "<"+n+" x=1>", "<"+n+"/>")
	}
	few := strings.Fields("<b> </b> <i> </i> <a> </a> <p> </p> <div> </div> <table> <td> <caption> </table> <svg> <desc> 1")
	odd := strings.Fields("< > / ! - ? & &lt ; = ' \" <b <p </ <!-- --> <![CDATA[ ]]> <!doctype <svg> <title> </title \x00 \xff \xc3")
	tags = append(tags, "1", "2", " ", "\n", "<!--c-->", "<!doctype html>", "<![CDATA[<]]>", "<g/>")
	errors := map[api.Errno]int{}
	for seed := range 60000 {
		r := rand.New(rand.NewSource(int64(seed)))
		from := [][]string{tags, few, odd}[seed%3]
		s := ""
		for range 1 + r.Intn(60) {
			s += from[r.Intn(len(from))]
		}
		l, err := Parse(s)
		again, errAgain := Parse(s)
		if err != errAgain || show(l) != show(again) {
			t.Fatalf("Parse(%q): %s, %v; then %s, %v", s, show(l), err, show(again), errAgain)
		}
		if err != api.OK && (len(l) > 0 || err != api.ErrMany && err != api.ErrDeep) {
			t.Fatalf("Parse(%q): %s, %v", s, show(l), err)
		}
		sound(t, s, l)
		errors[err]++
	}
	if errors[api.OK] == 0 {
		t.Errorf("all were refused: %v", errors)
	}
}
