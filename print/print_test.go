package print

import (
	"fmt"
	"math/rand"
	"slices"
	"strings"
	"testing"

	"recto/api"
	"recto/tags"
	"recto/tree"
)

func text(s string) api.Node { return api.Node{Kind: api.Text, Text: s} }
func note(s string) api.Node { return api.Node{Kind: api.Comment, Text: s} }

func elem(name string, kids ...api.Node) api.Node {
	return api.Node{Kind: api.Element, Name: name, Kids: kids}
}

func in(space int, n api.Node) api.Node {
	n.Space = space
	return n
}

func with(n api.Node, attrs ...string) api.Node {
	n.Attrs = nil
	for i := 0; i < len(attrs); i += 2 {
		n.Attrs = append(n.Attrs, api.Attr{Name: attrs[i], Value: attrs[i+1]})
	}
	return n
}

// below is a node with other kids, whatever its Kind.
func below(n api.Node, kids ...api.Node) api.Node {
	n.Kids = kids
	return n
}

func list(l ...api.Node) []api.Node { return l }

// plainEscape is refs.Escape, told by the library.
func plainEscape(s string, value bool) string {
	s = strings.NewReplacer("&", "&amp;", "\u00a0", "&nbsp;", "<", "&lt;", ">", "&gt;").Replace(s)
	if value {
		s = strings.ReplaceAll(s, "\"", "&quot;")
	}
	return s
}

// plainTag is the tag that begins an element.
func plainTag(n api.Node) string {
	s := "<" + n.Name
	for _, a := range n.Attrs {
		s += fmt.Sprintf(" %s=\"%s\"", a.Name, plainEscape(a.Value, true))
	}
	return s + ">"
}

// plainWritten is a text or a comment as it is written; parent is the name of the element of HTML whose kid it is, if it is one's.
func plainWritten(n api.Node, parent string) string {
	if n.Kind == api.Comment {
		return "<!--" + n.Text + "-->"
	}
	if slices.Contains([]string{"script", "style", "xmp"}, parent) {
		return n.Text
	}
	return plainEscape(n.Text, false)
}

// plainParent is an element's name, if it is one of HTML.
func plainParent(n api.Node) string {
	if n.Kind == 1 && n.Space == 0 {
		return n.Name
	}
	return ""
}

// plainText is nodes' text as the chapter tells it.
func plainText(l []api.Node, parent string) string {
	s := ""
	for _, n := range l {
		switch n.Kind {
		case api.Element:
			s += plainTag(n)
			if n.Space == 0 && slices.Contains([]string{"br", "hr", "img", "input", "wbr"}, n.Name) {
				continue
			}
			s += plainText(n.Kids, plainParent(n)) + "</" + n.Name + ">"
		case api.Text, api.Comment:
			s += plainWritten(n, parent)
		}
	}
	return s
}

// plainLines are lines as the chapter tells them.
func plainLines(l []api.Node, indent string) []string {
	var lines []string
	for _, n := range l {
		s := indent
		switch n.Kind {
		case api.Element:
			s += plainTag(n)
		case api.Text, api.Comment:
			s += strings.Join(strings.Split(n.Text, "\n"), " ")
		}
		lines = append(lines, s)
		lines = append(lines, plainLines(n.Kids, indent+" ")...)
	}
	return lines
}

// whole tells all that nodes have, so that a change shows; spare room too.
func whole(l []api.Node) string {
	s := ""
	for i, n := range l[:cap(l)] {
		s += fmt.Sprintf("(%v %d %d %q %q %q", i < len(l), n.Kind, n.Space, n.Name, n.Attrs[:cap(n.Attrs)], n.Text)
		s += whole(n.Kids) + ")"
	}
	return s
}

// hold asks for nodes' text, its size, their lines, and that they are as they were.
func hold(t *testing.T, l []api.Node, want string, lines ...string) {
	t.Helper()
	was := whole(l)
	for range 2 {
		if s := Text(l); s != want {
			t.Errorf("Text: %q; want %q", s, want)
		}
		if n := Size(l); n != len(want) {
			t.Errorf("Size: %d; want %d of %q", n, len(want), want)
		}
		if s := Lines(l); !slices.Equal(s, lines) {
			t.Errorf("Lines: %q; want %q", s, lines)
		}
		for _, n := range l {
			want := ""
			if n.Kind == api.Element {
				want = plainTag(n)
			}
			if s := Open(n); s != want {
				t.Errorf("Open: %q; want %q", s, want)
			}
		}
	}
	if whole(l) != was {
		t.Errorf("what was handed in was changed: %q", want)
	}
}

// holdPlain asks for what the chapter tells.
func holdPlain(t *testing.T, l []api.Node) {
	t.Helper()
	hold(t, l, plainText(l, ""), plainLines(l, "")...)
}

// Promises 13.1, 13.2: the document's example, and ordinary nodes.
func TestOrdinary(t *testing.T) {
	hold(t, nil, "")
	hold(t, list(), "")
	hold(t, list(elem("p", text("a<"))), "<p>a&lt;</p>", "<p>", " a<")
	hold(t, list(text("a")), "a", "a")
	hold(t, list(text("a"), elem("b", text("c")), text("d")), "a<b>c</b>d", "a", "<b>", " c", "d")
	hold(t, list(elem("ul", elem("li", text("1")), elem("li", elem("i", text("2"))))), "<ul><li>1</li><li><i>2</i></li></ul>", "<ul>", " <li>", "  1", " <li>", "  <i>", "   2")
	hold(t, list(with(elem("a", text("y")), "href", "/x", "title", "")), `<a href="/x" title="">y</a>`, `<a href="/x" title="">`, " y")
	hold(t, list(note("c"), elem("p"), note("")), "<!--c--><p></p><!---->", "c", "<p>", "")
	hold(t, list(in(api.SVG, elem("svg", in(api.SVG, elem("g", text("x")))))), "<svg><g>x</g></svg>", "<svg>", " <g>", "  x")
	hold(t, list(in(api.Math, elem("math", in(api.Math, elem("mi", elem("b")))))), "<math><mi><b></b></mi></math>", "<math>", " <mi>", "  <b>")
}

// Promise 13.1: the tag that begins an element, and nothing of others.
func TestOpen(t *testing.T) {
	for _, c := range []struct {
		n    api.Node
		want string
	}{
		{elem("p"), "<p>"},
		{elem("p", text("x"), elem("b")), "<p>"},
		{elem("br"), "<br>"},
		{in(api.SVG, elem("br")), "<br>"},
		{in(api.Math, with(elem("mi"), "a", "b")), `<mi a="b">`},
		{with(elem("p"), "b", "2", "a", "1"), `<p b="2" a="1">`},
		{with(elem("p"), "a", "", "a", "1"), `<p a="" a="1">`},
		{with(elem("p"), "a", "&\u00a0<>\"'\n"), "<p a=\"&amp;&nbsp;&lt;&gt;&quot;'\n\">"},
		{with(elem("style"), "a", "<"), `<style a="&lt;">`},
		{elem(""), "<>"},
		{api.Node{Kind: api.Element, Name: "p", Text: "x"}, "<p>"},
		{api.Node{}, ""},
		{text("x"), ""},
		{note("x"), ""},
		{api.Node{Kind: api.Text, Name: "p", Text: "x"}, ""},
		{with(api.Node{Kind: api.Comment, Name: "p"}, "a", "b"), ""},
		{with(api.Node{Kind: 0, Name: "p"}, "a", "b"), ""},
		{api.Node{Kind: 4, Name: "p"}, ""},
		{api.Node{Kind: -1, Name: "p"}, ""},
		{api.Node{Kind: 1 + 1<<32, Name: "p"}, ""},
	} {
		if s := Open(c.n); s != c.want {
			t.Errorf("Open(%v): %q; want %q", c.n, s, c.want)
		}
	}
}

// Promise 13.1: void elements of HTML have neither kids nor an end where they are written, those of other spaces have.
func TestVoid(t *testing.T) {
	for _, name := range []string{"br", "hr", "img", "input", "wbr"} {
		tag := "<" + name + ">"
		hold(t, list(elem(name)), tag, tag)
		hold(t, list(elem(name, text("no"), elem("b", text("no"))), text("y")), tag+"y", tag, " no", " <b>", "  no", "y")
		hold(t, list(with(elem(name, text("no")), "a", "\"")), "<"+name+" a=\"&quot;\">", "<"+name+" a=\"&quot;\">", " no")
		hold(t, list(elem("p", elem(name, note("no")), text("y"))), "<p>"+tag+"y</p>", "<p>", " "+tag, "  no", " y")
		for _, space := range []int{api.SVG, api.Math, 3, -1, 256} {
			hold(t, list(in(space, elem(name))), tag+"</"+name+">", tag)
			hold(t, list(in(space, elem(name, text("yes"), elem("b")))), tag+"yes<b></b></"+name+">", tag, " yes", " <b>")
		}
	}
	for _, name := range []string{"image", "area", "link", "brx", "b", "BR", ""} {
		hold(t, list(elem(name, text("x"))), "<"+name+">x</"+name+">", "<"+name+">", " x")
	}
}

// Promise 13.1: texts are as they are in Raw and Listing elements of HTML, right below them, and nowhere else.
func TestRaw(t *testing.T) {
	const s, escaped = "a<&>\u00a0\"</p>", "a&lt;&amp;&gt;&nbsp;\"&lt;/p&gt;"
	for _, name := range []string{"script", "style", "xmp"} {
		tag, end := "<"+name+">", "</"+name+">"
		hold(t, list(elem(name, text(s))), tag+s+end, tag, " "+s)
		hold(t, list(elem(name, text(s), text(s)), text(s)), tag+s+s+end+escaped, tag, " "+s, " "+s, s)
		hold(t, list(elem(name, text(end))), tag+end+end, tag, " "+end)
		hold(t, list(elem(name, elem("b", text(s)), text(s))), tag+"<b>"+escaped+"</b>"+s+end, tag, " <b>", "  "+s, " "+s)
		hold(t, list(elem("b", elem(name, text(s)), text(s))), "<b>"+tag+s+end+escaped+"</b>", "<b>", " "+tag, "  "+s, " "+s)
		hold(t, list(elem(name, elem(name, text(s)))), tag+tag+s+end+end, tag, " "+tag, "  "+s)
		hold(t, list(elem(name, note(s), in(api.SVG, elem("b", text(s))))), tag+"<!--"+s+"--><b>"+escaped+"</b>"+end, tag, " "+s, " <b>", "  "+s)
		for _, space := range []int{api.SVG, api.Math, 3, -1, 256} {
			hold(t, list(in(space, elem(name, text(s)))), tag+escaped+end, tag, " "+s)
			hold(t, list(elem(name, in(space, elem(name, text(s))))), tag+tag+escaped+end+end, tag, " "+tag, "  "+s)
		}
		// What is no element has no texts that are written as they are, whatever its Name.
		hold(t, list(below(api.Node{Kind: api.Text, Name: name, Text: s}, text(s))), escaped, s, " "+s)
		hold(t, list(below(api.Node{Kind: 9, Name: name, Text: s}, text(s))), "", "", " "+s)
	}
	for _, name := range []string{"title", "textarea", "pre", "p", "noscript", "iframe", "plaintext", "svg", "STYLE", "stylex", "br x", ""} {
		hold(t, list(elem(name, text(s))), "<"+name+">"+escaped+"</"+name+">", "<"+name+">", " "+s)
	}
}

// Promise 13.1: just Raw and Listing are as they are, and just the void ones have no end: by all names that tags has.
func TestNames(t *testing.T) {
	names := strings.Fields("html head body frame frameset caption tbody thead tr td th table blockquote div ol section ul p h1 h2 h3 pre li a b code em i strong u br img input wbr hr title textarea script style xmp math svg other mi desc foreignobject image")
	for _, name := range names {
		for space := range 3 {
			want := "<" + name + ">"
			if space != 0 || !tags.Void(name) {
				s := "&amp;"
				if g := tags.Group(name); space == 0 && (g == tags.Raw || g == tags.Listing) {
					s = "&"
				}
				want += s + "</" + name + ">"
			}
			if s := Text(list(in(space, elem(name, text("&"))))); s != want {
				t.Errorf("Text of %s, space %d: %q; want %q", name, space, s, want)
			}
		}
	}
}

// Promise 13.1: each character that is escaped, in values and in texts.
func TestEscaped(t *testing.T) {
	for _, c := range []struct{ s, text, value string }{
		{"&", "&amp;", "&amp;"},
		{"\u00a0", "&nbsp;", "&nbsp;"},
		{"<", "&lt;", "&lt;"},
		{">", "&gt;", "&gt;"},
		{"\"", "\"", "&quot;"},
		{"'", "'", "'"},
		{"`", "`", "`"},
		{"=", "=", "="},
		{"\t\f\r\x00\x7f", "\t\f\r\x00\x7f", "\t\f\r\x00\x7f"},
		{"\xc2", "\xc2", "\xc2"},
		{"\xa0", "\xa0", "\xa0"},
		{"a\xff&\xe2\x82<", "a\xff&amp;\xe2\x82&lt;", "a\xff&amp;\xe2\x82&lt;"},
		{"\u20ac\u00e9\U0001f600", "\u20ac\u00e9\U0001f600", "\u20ac\u00e9\U0001f600"},
		{"&amp;&lt;", "&amp;amp;&amp;lt;", "&amp;amp;&amp;lt;"},
		{"<p a=\"b\">", "&lt;p a=\"b\"&gt;", "&lt;p a=&quot;b&quot;&gt;"},
	} {
		hold(t, list(text(c.s)), c.text, c.s)
		hold(t, list(elem("p", text("x"+c.s+"y"))), "<p>x"+c.text+"y</p>", "<p>", " x"+c.s+"y")
		hold(t, list(with(elem("p"), "a", c.s)), "<p a=\""+c.value+"\"></p>", "<p a=\""+c.value+"\">")
		hold(t, list(with(elem("br"), "a", "x", "b", c.s+c.s)), "<br a=\"x\" b=\""+c.value+c.value+"\">", "<br a=\"x\" b=\""+c.value+c.value+"\">")
		hold(t, list(with(elem("style", text(c.s)), "a", c.s)), "<style a=\""+c.value+"\">"+c.s+"</style>", "<style a=\""+c.value+"\">", " "+c.s)
		hold(t, list(note(c.s)), "<!--"+c.s+"-->", c.s)
	}
}

// Promise 13.1: comments with any text.
func TestComments(t *testing.T) {
	for _, s := range []string{"", "a", "-", "--", "-->", "--!>", ">", "->", "<!--", "a--b", "<b>&amp;\"", "\xff\x00\r", " ", "&\u00a0"} {
		want := "<!--" + s + "-->"
		hold(t, list(note(s)), want, s)
		hold(t, list(elem("p", note(s), note(s))), "<p>"+want+want+"</p>", "<p>", " "+s, " "+s)
		hold(t, list(elem("style", note(s))), "<style>"+want+"</style>", "<style>", " "+s)
		hold(t, list(below(api.Node{Kind: api.Comment, Name: "p", Text: s}, text("no"))), want, s, " no")
	}
}

// Promises 13.1, 13.2: a node of another Kind is nothing, its kids too; its line is spaces alone.
func TestOtherKinds(t *testing.T) {
	for _, k := range []int{0, 4, 7, -1, 255, 256, 257, 258, 259, 1 << 32, 1<<32 + 1, 1<<63 - 1, -1 << 63} {
		n := with(api.Node{Kind: k, Name: "p", Text: "no"}, "a", "b")
		hold(t, list(n), "", "")
		hold(t, list(text("a"), n, text("b")), "ab", "a", "", "b")
		n = below(n, text("c\nd"), elem("style", text("<")), api.Node{Kind: k})
		hold(t, list(n), "", "", " c d", " <style>", "  <", " ")
		hold(t, list(elem("p", n)), "<p></p>", "<p>", " ", "  c d", "  <style>", "   <", "  ")
		hold(t, list(elem("xmp", n)), "<xmp></xmp>", "<xmp>", " ", "  c d", "  <style>", "   <", "  ")
	}
}

// Promises 13.1, 13.2: nodes that are not right are written as they are.
func TestWrong(t *testing.T) {
	hold(t, list(elem("")), "<></>", "<>")
	hold(t, list(elem("P <&>\"", text("a"))), "<P <&>\">a</P <&>\">", "<P <&>\">", " a")
	hold(t, list(elem("a\nb")), "<a\nb></a\nb>", "<a\nb>")
	hold(t, list(elem("\xff")), "<\xff></\xff>", "<\xff>")
	hold(t, list(with(elem("p"), "", "", "A b\"<", "c", "x\ny", "1\n2")), "<p =\"\" A b\"<=\"c\" x\ny=\"1\n2\"></p>", "<p =\"\" A b\"<=\"c\" x\ny=\"1\n2\">")
	hold(t, list(with(elem("p"), "a", "1", "a", "2", "a", "1")), `<p a="1" a="2" a="1"></p>`, `<p a="1" a="2" a="1">`)
	hold(t, list(text(""), text(""), text("a"), text(""), text("b")), "ab", "", "", "a", "", "b")
	hold(t, list(below(text("a"), text("b"), elem("i", text("c")))), "a", "a", " b", " <i>", "  c")
	hold(t, list(below(note("a"), text("b"))), "<!--a-->", "a", " b")
	hold(t, list(elem("p", below(text("a"), elem("b")))), "<p>a</p>", "<p>", " a", "  <b>")
	hold(t, list(in(api.SVG, with(api.Node{Kind: api.Text, Name: "p", Text: "&"}, "a", "b"))), "&amp;", "&")
	hold(t, list(api.Node{Kind: api.Element, Name: "p", Text: "no"}), "<p></p>", "<p>")
	var many []string
	for i := range 40 {
		many = append(many, fmt.Sprint("n", i), "")
	}
	holdPlain(t, list(with(elem(strings.Repeat("p", 100)), many...)))
}

// Promise 13.2: lines' ends in texts and comments are spaces; a tag stays as it is.
func TestLineEnds(t *testing.T) {
	hold(t, list(text("y\nz")), "y\nz", "y z")
	hold(t, list(text("\n\n")), "\n\n", "  ")
	hold(t, list(elem("pre", text("\n a\r\n\tb\n"))), "<pre>\n a\r\n\tb\n</pre>", "<pre>", "   a\r \tb ")
	hold(t, list(elem("p", note("\na\n\nb"))), "<p><!--\na\n\nb--></p>", "<p>", "  a  b")
	hold(t, list(elem("style", text("a\n<b\n"))), "<style>a\n<b\n</style>", "<style>", " a <b ")
	hold(t, list(with(elem("p", text("\n")), "a", "1\n2")), "<p a=\"1\n2\">\n</p>", "<p a=\"1\n2\">", "  ")
	hold(t, list(text("\v\f\u2028\u0085")), "\v\f\u2028\u0085", "\v\f\u2028\u0085")
}

// Promise 13.2: a text's and a comment's line has the node's own Text, whatever is written of it, and whosever kid it is.
func TestOwnText(t *testing.T) {
	const s, own = "&\u00a0<\n>\"-->&lt;", "&\u00a0< >\"-->&lt;"
	parents := list(elem("p"), elem("style"), elem("script"), elem("xmp"), elem("title"), elem("textarea"), elem("br"), in(api.SVG, elem("style")), in(api.Math, elem("xmp")), in(api.SVG, elem("br")), in(3, elem("script")), text("x"), note("x"), api.Node{Kind: 9})
	for _, kid := range list(text(s), note(s), in(api.SVG, text(s)), in(7, note(s))) {
		if got := Lines(list(kid, kid)); !slices.Equal(got, []string{own, own}) {
			t.Errorf("Lines: %q; want %q twice", got, own)
		}
		for _, n := range parents {
			want := append(Lines(list(n)), " "+own, " "+own)
			if got := Lines(list(below(n, kid, kid))); !slices.Equal(got, want) {
				t.Errorf("Lines: %q; want %q", got, want)
			}
		}
	}
	l := list(elem("p", text("a<")), note("c\n-"), in(api.SVG, elem("style", text("&\n\""))), text("\xc2\xa0>"))
	hold(t, l, "<p>a&lt;</p><!--c\n---><style>&amp;\n\"</style>&nbsp;&gt;", "<p>", " a<", "c -", "<style>", " & \"", "\xc2\xa0>")
	// A value in a tag is written, so it stays escaped.
	hold(t, list(with(elem("p"), "a", s)), "<p a=\""+plainEscape(s, true)+"\"></p>", "<p a=\""+plainEscape(s, true)+"\">")
}

// Promise 13.2: as many spaces as a node lies deep, and each ahead of its kids, these ahead of what is behind it.
func TestDeepLines(t *testing.T) {
	l := list(text("x\ny"), note("\n"))
	want := []string{"x y", " "}
	for range 200 {
		l = list(elem("i", l...), text("z"))
		for i := range want {
			want[i] = " " + want[i]
		}
		want = append(append([]string{"<i>"}, want...), "z")
	}
	if got := Lines(l); !slices.Equal(got, want) {
		t.Errorf("Lines: %q", got)
	}
	l = list(api.Node{Kind: 8})
	for i := range 3000 {
		l = list(api.Node{Kind: 8 - i%9, Kids: l})
	}
	lines := Lines(l)
	if len(lines) != 3001 || lines[3000] != strings.Repeat(" ", 3000) || !strings.HasPrefix(lines[2999], strings.Repeat(" ", 2999)) {
		t.Errorf("%d lines", len(lines))
	}
}

// forests are all lists of just n nodes, each of which is one of heads with some of the others as kids.
func forests(n int, heads []api.Node) [][]api.Node {
	if n == 0 {
		return [][]api.Node{nil}
	}
	var all [][]api.Node
	for _, h := range heads {
		for k := range n {
			for _, kids := range forests(k, heads) {
				for _, rest := range forests(n-1-k, heads) {
					all = append(all, append(list(below(h, kids...)), rest...))
				}
			}
		}
	}
	return all
}

// Promises 13.1, 13.2: of all small lists, what the chapter tells.
func TestSmall(t *testing.T) {
	heads := []api.Node{text("&\n"), note("<"), elem("b"), with(elem("br"), "a", "\""), in(api.SVG, elem("br")), elem("style"), elem("xmp"), in(api.Math, elem("script")), {Kind: 5, Name: "style", Text: "x"}}
	for n := range 4 {
		for _, l := range forests(n, heads) {
			holdPlain(t, l)
			if t.Failed() {
				return
			}
		}
	}
}

// someNodes are nodes by chance, right or not.
func someNodes(r *rand.Rand, depth int) []api.Node {
	var l []api.Node
	texts := []string{"", "a", "<", "&amp;", "\n", "\u00a0", "\"", "\xff", "-->", "a\nb\n"}
	names := []string{"p", "b", "br", "hr", "img", "style", "script", "xmp", "svg", "title", "textarea", "", "<"}
	for range r.Intn(4) {
		n := api.Node{Kind: r.Intn(5), Space: r.Intn(4), Text: texts[r.Intn(len(texts))], Name: names[r.Intn(len(names))]}
		if r.Intn(2) == 0 {
			n.Kind, n.Space = api.Element, api.HTML
		}
		for range r.Intn(3) {
			n.Attrs = append(n.Attrs, api.Attr{Name: names[r.Intn(len(names))], Value: texts[r.Intn(len(texts))]})
		}
		if depth > 0 {
			n.Kids = someNodes(r, depth-1)
		}
		l = append(l, n)
	}
	return l
}

// Promises 13.1 to 13.3: of nodes by chance, what the chapter tells, and of two lists, one behind the other, theirs.
func TestChance(t *testing.T) {
	r := rand.New(rand.NewSource(13))
	for range 3000 {
		a, b := someNodes(r, 5), someNodes(r, 5)
		holdPlain(t, a)
		both := append(slices.Clone(a), b...)
		if Text(both) != Text(a)+Text(b) || Size(both) != Size(a)+Size(b) || !slices.Equal(Lines(both), append(Lines(a), Lines(b)...)) {
			t.Fatalf("Text: %q; want %q and %q", Text(both), Text(a), Text(b))
		}
		if t.Failed() {
			return
		}
	}
}

// Promise 13.3, at its edges: raw texts and unended things ahead change nothing behind.
func TestOneBehindTheOther(t *testing.T) {
	lists := [][]api.Node{
		nil, {text("<")}, {elem("style", text("<"))}, {elem("xmp")}, {elem("br", text("x"))}, {note("--")}, {{Kind: 0, Kids: list(text("<"))}}, {elem("p", elem("style", text("&")))}, {text("")},
	}
	for _, a := range lists {
		for _, b := range lists {
			for _, c := range lists {
				l := slices.Concat(a, b, c)
				if s := Text(l); s != Text(a)+Text(b)+Text(c) || Size(l) != len(s) {
					t.Errorf("Text: %q; want %q, %q and %q", s, Text(a), Text(b), Text(c))
				}
			}
		}
	}
}

// Promise 13.4: unlike right nodes of one space have unlike texts, but for Raw, Listing, void ones, and comments.
func TestUnlike(t *testing.T) {
	heads := []api.Node{
		text("a"), text("<b>"), text("&lt;b&gt;"), text("</b>"), text("<b></b>"), text("a</b>a"), text("\""), text("&quot;"), text("&nbsp;"), text("\u00a0"),
		elem("a"), elem("b"), elem("title"), with(elem("b"), "a", ""), with(elem("b"), "b", ""), with(elem("b"), "a", "", "b", ""), with(elem("b"), "b", "", "a", ""),
		with(elem("b"), "a", "\" b=\""), with(elem("b"), "a", "\">"), with(elem("b"), "a", "&quot;>"),
	}
	for space := range 3 {
		var some []api.Node
		for _, h := range heads {
			if h.Kind == api.Element {
				h = in(space, h)
			}
			some = append(some, h)
		}
		texts := map[string]int{}
		count := 0
		for n := range 4 {
			for i, l := range forests(n, some) {
				if tree.Check(l) != api.OK {
					continue
				}
				count++
				s := Text(l)
				if was, ok := texts[s]; ok {
					t.Fatalf("space %d: lists %d and %d of at most %d nodes have one text: %q", space, was, i, n, s)
				}
				texts[s] = i
			}
		}
		if count < 5000 {
			t.Errorf("just %d lists", count)
		}
	}
}

// Promise 13.1: nodes far deeper, and far more of them, than the limits.
func TestGreat(t *testing.T) {
	const deep = 1000000
	l := list(text("<"))
	for range deep {
		l = list(elem("b", l...))
	}
	want := strings.Repeat("<b>", deep) + "&lt;" + strings.Repeat("</b>", deep)
	if Text(l) != want || Size(l) != len(want) {
		t.Error("Text of deep nodes")
	}
	const many = 200000
	l = slices.Repeat(list(elem("p", text("<")), note("")), many)
	if Text(l) != strings.Repeat("<p>&lt;</p><!---->", many) || Size(l) != 18*many || len(Lines(l)) != 3*many {
		t.Error("Text of many nodes")
	}
	long := strings.Repeat("a<", 1<<20)
	hold(t, list(with(elem("p", text(long)), "a", long)), "<p a=\""+plainEscape(long, true)+"\">"+plainEscape(long, true)+"</p>", "<p a=\""+plainEscape(long, true)+"\">", " "+long)
}

// Rule R3: lines are new memory, each time.
func TestLinesAreNew(t *testing.T) {
	l := make([]api.Node, 0, 9)
	l = append(l, elem("p", text("a")), text("b"))
	one := Lines(l)
	two := Lines(l)
	for i := range one[:cap(one)] {
		one[:cap(one)][i] = "z"
	}
	if three := Lines(l); !slices.Equal(two, three) || !slices.Equal(two, []string{"<p>", " a", "b"}) {
		t.Errorf("Lines: %q, then %q", two, three)
	}
}
