package tree

import (
	"fmt"
	"math"
	"slices"
	"strconv"
	"strings"

	"recto/api"
	"recto/pen"
	"recto/quill"
)

func text(s string) api.Node { return api.Node{Kind: api.Text, Text: s} }
func note(s string) api.Node { return api.Node{Kind: api.Comment, Text: s} }

func elem(name string, kids ...api.Node) api.Node {
	return api.Node{Kind: api.Element, Name: name, Kids: kids}
}

func in(space int, n api.Node) api.Node {
	n.Space = space
	return n
}

func with(n api.Node, attrs ...api.Attr) api.Node {
	n.Attrs = attrs
	return n
}

func attr(name, value string) api.Attr { return api.Attr{Name: name, Value: value} }

func list(l ...api.Node) []api.Node { return l }

// attrs are that many attributes, each of another name.
func attrs(n int) []api.Attr {
	var l []api.Attr
	for i := range n {
		l = append(l, attr("n"+strconv.Itoa(i), strconv.Itoa(i)))
	}
	return l
}

// deep is what l is in that many elements.
func deep(n int, l ...api.Node) []api.Node {
	for range n {
		l = list(elem("b", l...))
	}
	return l
}

// many are that many nodes, side by side.
func many(n int, node api.Node) []api.Node { return slices.Repeat(list(node), n) }

func long(n int) string { return strings.Repeat("x", n) }

// tell writes all that any nodes have, up to about most bytes of it: there may be no end to them.
func tell(b *strings.Builder, l []api.Node, most int) {
	for _, n := range l {
		if b.Len() > most {
			return
		}
		fmt.Fprintf(b, "(%d %d %q %q %q", n.Kind, n.Space, n.Name, n.Attrs, n.Text)
		tell(b, n.Kids, most)
		b.WriteString(")")
	}
}

// whole tells all of nodes, so that a change shows.
func whole(l []api.Node) string {
	var b strings.Builder
	tell(&b, l, math.MaxInt)
	return b.String()
}

// show tells nodes in not too many words.
func show(l []api.Node) string {
	var b strings.Builder
	tell(&b, l, 300)
	return b.String()[:min(b.Len(), 300)]
}

// kind is a node of that Kind, whatever it is, with kids.
func kind(k int, kids ...api.Node) api.Node { return api.Node{Kind: k, Kids: kids} }

// rights are right nodes, at the edges too.
func rights() [][]api.Node {
	long := strings.Repeat("z", api.MaxName)
	return [][]api.Node{
		nil,
		{},
		{text("a")},
		{text(" ")},
		{text("<&>\"'\n\t\xc2\xa0\xe2\x82\xac")},
		{note("")},
		{note("a")},
		{note("-->")},
		{note(""), note("")},
		{text("a"), note(""), text("a")},
		{text("a"), elem("b"), text("a")},
		{elem("b", text("a")), text("a")},
		{text("a"), elem("b", text("a"))},
		{elem("b", text("a")), elem("b", text("a"))},
		{elem("p")},
		{in(api.SVG, elem("p"))},
		{in(api.Math, elem("p", in(api.SVG, elem("a", elem("b")))))},
		{elem(long)},
		{with(elem("p"), attr("a", ""))},
		{with(elem("p"), attr("a", "b"), attr("b", "b"))},
		{with(elem("p"), attr("b", "b"), attr("a", "b"))},
		{with(elem("p"), attr(long, "<\"'&\n\xe2\x82\xac"))},
		{with(elem("p"), attrs(api.MaxAttrs)...)},
		{elem("br", text("a")), elem("script", elem("p"), note("")), elem("p", elem("p"))},
		many(api.MaxNodes, elem("b")),
		many(api.MaxNodes, note("")),
		many(api.MaxNodes/2, elem("b", text("a"))),
		{elem("b", many(api.MaxNodes-1, note("a"))...)},
		deep(api.MaxDepth),
		deep(api.MaxDepth, text("a"), note(""), text("b")),
		append(deep(api.MaxDepth), deep(api.MaxDepth, note(""))...),
		{text(strings.Repeat("a", api.MaxBytes))},
		{note(strings.Repeat("a", api.MaxBytes))},
		{with(elem("p"), attr("a", strings.Repeat("a", api.MaxBytes)))},
		{elem("p", text("x"), in(api.SVG, with(elem("b"), attr("c", "d"))), text("y")), note("")},
	}
}

// badTexts are not Good.
func badTexts() []string {
	return []string{"\x00", "\r", "a\r\nb", "\xff", "a\xe2\x82", "\xed\xa0\x80"}
}

// noNames are texts that are no names.
func noNames() []string {
	return []string{"", "P", "pP", "1", "-p", "p_", "p ", "p\x00", "\xc3\xa9", strings.Repeat("p", api.MaxName+1)}
}

// wrongs are nodes that are not right, though neither too many nor too deep; telling are those whose bytes could tell what is wrong.
func wrongs() (all, telling [][]api.Node) {
	one := func(n api.Node) { telling = append(telling, list(n)) }
	for _, s := range badTexts() {
		one(text(s))
		one(note(s))
		one(with(elem("p"), attr("a", s)))
		one(with(elem("p"), attr("a", ""), attr("b", s)))
	}
	for _, s := range noNames() {
		one(elem(s))
		one(with(elem("p"), attr(s, "")))
	}
	for _, k := range []int{0, 4, 5, 255, 256, 258, 1 << 40} {
		one(kind(k))
	}
	for _, s := range []int{3, 4, 255, 256, 1 << 40} {
		one(in(s, elem("p")))
	}
	one(text(""))
	one(with(elem("p"), attrs(api.MaxAttrs+1)...))
	one(with(elem("p"), attr("a", "1"), attr("b", "2"), attr("a", "3")))
	telling = append(telling, list(text("a"), text("b")), list(note(""), text("a"), text("a")), list(text("a"), text("a"), text("a")))

	all = slices.Clone(telling)
	for _, n := range []api.Node{text("a"), note("a"), note("")} {
		all = append(all, list(in(api.SVG, n)), list(in(api.Math, n)), list(in(-1, n)), list(with(n, attr("a", "b"))))
		n.Name = "p"
		all = append(all, list(n))
		n.Name, n.Kids = "", list(note(""))
		all = append(all, list(n))
		n.Kids = list(elem("b"))
		all = append(all, list(n))
	}
	withText := elem("p")
	withText.Text = "a"
	all = append(all, list(withText), list(in(-1, elem("p"))), list(kind(-1)), list(kind(-1<<63)), list(in(-1<<63, elem("p"))), list(kind(1<<63-1)))
	return below(all), below(telling)
}

// below are these nodes, and the same as kids and behind others.
func below(lists [][]api.Node) [][]api.Node {
	var all [][]api.Node
	for _, l := range lists {
		all = append(all, l, list(elem("b", l...)), append(list(elem("b")), l...), append(slices.Clone(l), elem("b")), deep(api.MaxDepth-2, l...))
	}
	return all
}

// forests are all lists of just n nodes, each of which is one of heads with some of the others as kids.
func forests(n int, heads []api.Node) [][]api.Node {
	if n == 0 {
		return [][]api.Node{nil}
	}
	var all [][]api.Node
	for k := range n {
		kids, rests := forests(k, heads), forests(n-1-k, heads)
		for _, h := range heads {
			for _, kid := range kids {
				for _, rest := range rests {
					h.Kids = kid
					all = append(all, append(list(h), rest...))
				}
			}
		}
	}
	return all
}

// smalls are all lists of at most n nodes with these heads.
func smalls(n int, heads ...api.Node) [][]api.Node {
	var all [][]api.Node
	for k := range n + 1 {
		all = append(all, forests(k, heads)...)
	}
	return all
}

// plainRight tells of nodes that are neither too many nor too deep whether they are right, by the chapter's words.
func plainRight(l []api.Node) bool {
	for i, n := range l {
		bare := n.Space == 0 && n.Name == "" && len(n.Attrs) == 0 && len(n.Kids) == 0 && pen.Good(n.Text)
		_, e := pen.Open("a", n.Attrs)
		switch {
		case n.Kind == 1 && n.Space >= 0 && n.Space < 3 && pen.Name(n.Name) && e == api.OK && n.Text == "" && plainRight(n.Kids):
		case n.Kind == 2 && bare && n.Text != "" && (i == 0 || l[i-1].Kind != 2):
		case n.Kind == 3 && bare:
		default:
			return false
		}
	}
	return true
}

func plainCount(l []api.Node) int {
	c := len(l)
	for _, n := range l {
		c += plainCount(n.Kids)
	}
	return c
}

func plainDepth(l []api.Node, at int) int {
	d := 0
	for _, n := range l {
		if n.Kind != 2 && n.Kind != 3 {
			d = max(d, at)
		}
		d = max(d, plainDepth(n.Kids, at+1))
	}
	return d
}

func plainWords(l []api.Node) string {
	s := ""
	for _, n := range l {
		if n.Kind == 2 {
			s += n.Text
		}
		s += plainWords(n.Kids)
	}
	return s
}

func plainSame(a, b []api.Node) bool {
	return slices.EqualFunc(a, b, func(n, m api.Node) bool {
		return n.Kind == m.Kind && n.Space == m.Space && n.Name == m.Name && n.Text == m.Text && slices.Equal(n.Attrs, m.Attrs) && plainSame(n.Kids, m.Kids)
	})
}

func num(n int) string {
	b, e := quill.Num(n)
	if e != api.OK {
		panic(n)
	}
	return b
}

// word is a text's bytes, though it may be longer than a text may be.
func word(s string) string { return num(len(s)) + s }

// plainBytes are nodes' bytes, though they may not be right. (What is neither a text nor a comment is written as an element.)
func plainBytes(l []api.Node) string {
	var b strings.Builder
	b.WriteString(num(len(l)))
	for _, n := range l {
		b.WriteString(num(n.Kind))
		if n.Kind == 2 || n.Kind == 3 {
			b.WriteString(word(n.Text))
			continue
		}
		b.WriteString(num(n.Space) + word(n.Name) + num(len(n.Attrs)))
		for _, a := range n.Attrs {
			b.WriteString(word(a.Name) + word(a.Value))
		}
		b.WriteString(plainBytes(n.Kids))
	}
	return b.String()
}
