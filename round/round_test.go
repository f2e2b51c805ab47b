package round

import (
	"fmt"
	"math/rand"
	"slices"
	"strings"
	"testing"

	"recto/api"
	"recto/build"
	"recto/print"
	"recto/tree"
)

func text(s string) api.Node { return api.Node{Kind: api.Text, Text: s} }
func note(s string) api.Node { return api.Node{Kind: api.Comment, Text: s} }

func elem(name string, kids ...api.Node) api.Node {
	return api.Node{Kind: api.Element, Name: name, Kids: kids}
}

func in(space int, n api.Node) api.Node {
	n.Space = space
	return n
}

func with(n api.Node, attrs ...string) api.Node {
	n.Attrs = nil
	for i := 0; i < len(attrs); i += 2 {
		n.Attrs = append(n.Attrs, api.Attr{Name: attrs[i], Value: attrs[i+1]})
	}
	return n
}

func below(n api.Node, kids ...api.Node) api.Node {
	n.Kids = kids
	return n
}

func list(l ...api.Node) []api.Node { return l }

// inside is what l is in that many elements.
func inside(name string, n int, l ...api.Node) []api.Node {
	for range n {
		l = list(elem(name, l...))
	}
	return l
}

// show is nodes in short: words as they are, !comments!, and names with attributes and, in brackets, kids.
func show(l []api.Node) string {
	var b strings.Builder
	for _, n := range l {
		switch n.Kind {
		case api.Text:
			b.WriteString(n.Text)
		case api.Comment:
			b.WriteString("!" + n.Text + "!")
		case api.Element:
			b.WriteString([]string{"", "svg:", "math:"}[n.Space] + n.Name)
			for _, a := range n.Attrs {
				b.WriteString(" " + a.Name + "=" + a.Value)
			}
			b.WriteString("(" + show(n.Kids) + ")")
		}
	}
	return b.String()
}

// whole tells all that nodes have, so that a change shows; spare room too.
func whole(l []api.Node) string {
	var b strings.Builder
	for i, n := range l[:cap(l)] {
		fmt.Fprintf(&b, "(%v %d %d %q %q %q", i < len(l), n.Kind, n.Space, n.Name, n.Attrs[:cap(n.Attrs)], n.Text)
		b.WriteString(whole(n.Kids) + ")")
	}
	return b.String()
}

// spoil writes over all of nodes, spare room too.
func spoil(l []api.Node) {
	l = l[:cap(l)]
	for i := range l {
		spoil(l[i].Kids)
		attrs := l[i].Attrs[:cap(l[i].Attrs)]
		for j := range attrs {
			attrs[j] = api.Attr{Name: "spoilt", Value: "spoilt"}
		}
		l[i] = api.Node{Kind: 99, Name: "spoilt", Text: "spoilt"}
	}
}

// widen puts something behind each list, as spare room has it: where lists share memory, it shows.
func widen(l []api.Node) {
	for i := range l {
		_ = append(l[i].Kids, api.Node{Kind: 98})
		_ = append(l[i].Attrs, api.Attr{Name: "wide"})
		widen(l[i].Kids)
	}
	_ = append(l, api.Node{Kind: 98})
}

// plainSettle is Settle, told as the chapter has it.
func plainSettle(l []api.Node) ([]api.Node, int, api.Errno) {
	for n := 0; n <= 8; n++ {
		next, e := build.Ready(print.Text(l))
		if e != api.OK {
			return nil, 0, e
		}
		if tree.Same(l, next) {
			return l, n, api.OK
		}
		l = next
	}
	return nil, 0, api.ErrFull
}

// holdAll asks of all calls of one list what the chapter tells, and that the list is as it was.
func holdAll(t *testing.T, l []api.Node) {
	t.Helper()
	was := whole(l)
	want, err := build.Ready(print.Text(l))
	again, e := Again(l)
	if e != err || !tree.Same(again, want) {
		t.Errorf("Again(%s): %s, %v; want %s, %v", was, show(again), e, show(want), err)
	}
	if b := Back(l); b != (err == api.OK && tree.Same(l, want)) {
		t.Errorf("Back(%s): %v", was, b)
	}
	nodes, rounds, err := plainSettle(l)
	got, n, e := Settle(l)
	if e != err || n != rounds || !tree.Same(got, nodes) {
		t.Errorf("Settle(%s): %s, %d, %v; want %s, %d, %v", was, show(got), n, e, show(nodes), rounds, err)
	}
	told := whole(nodes)
	for _, l := range [][]api.Node{again, got} {
		s := show(l)
		widen(l)
		if show(l) != s {
			t.Errorf("two lists of an answer share memory: %s", s)
		}
		spoil(l)
	}
	if whole(l) != was || whole(nodes) != told {
		t.Errorf("what was handed in was changed, or handed out: %s", was)
	}
	if two, n, e := Settle(l); e != err || n != rounds || !tree.Same(two, nodes) {
		t.Errorf("Settle(%s), a second time: %s, %d, %v", was, show(two), n, e)
	}
}

// Promise 14.1: what is read of nodes' text.
func TestAgain(t *testing.T) {
	for _, c := range []struct {
		l    []api.Node
		want string
		e    api.Errno
	}{
		{nil, "", api.OK},
		{list(), "", api.OK},
		{list(text("a")), "a", api.OK},
		{list(text("")), "", api.OK},
		{list(text("a<b>&lt;")), "a<b>&lt;", api.OK},
		{list(text("a"), text("b")), "ab", api.OK},
		{list(text("a\r\nb\x00")), "a\nb\ufffd", api.OK},
		{list(text("\xff")), "\ufffd", api.OK},
		{list(elem("p", elem("p"))), "p()p()p()", api.OK},
		{list(elem("p", text("1"), elem("p", text("2")), text("3"))), "p(1)p(2)3p()", api.OK},
		{list(elem("b", text("1"), elem("p", text("2"))), text("3")), "b(1p(2))3", api.OK},
		{list(elem("table", text("a"), elem("td", text("b")))), "atable(tbody(tr(td(b))))", api.OK},
		{list(elem("br", text("x"))), "br()", api.OK},
		{list(elem("style", text("a</style>b"))), "style(a)b", api.OK},
		{list(note("a-->b")), "!a!b-->", api.OK},
		{list(elem("P")), "p()", api.OK},
		{list(elem("1")), "<1>!1!", api.OK},
		{list(with(elem("p"), "a", "1", "a", "2")), "p a=1()", api.OK},
		{list(below(text("a"), text("b"))), "a", api.OK},
		{list(api.Node{Kind: 7, Text: "x", Kids: list(text("y"))}), "", api.OK},
		{list(in(api.SVG, elem("p", text("x")))), "p(x)", api.OK},
		{list(in(api.SVG, elem("svg", elem("b")))), "svg:svg()b()", api.OK},
		{list(text(strings.Repeat("a", api.MaxText))), strings.Repeat("a", api.MaxText), api.OK},
		{list(text(strings.Repeat("a", api.MaxText+1))), "", api.ErrLong},
		{list(text(strings.Repeat("<", api.MaxText/4))), strings.Repeat("<", api.MaxText/4), api.OK},
		{list(text(strings.Repeat("<", api.MaxText/4+1))), "", api.ErrLong},
		{inside("i", api.MaxDepth), strings.Repeat("i(", 40) + strings.Repeat(")", 40), api.OK},
		{inside("i", api.MaxDepth+1), "", api.ErrDeep},
		{slices.Repeat(list(elem("i")), api.MaxNodes), strings.Repeat("i()", 300), api.OK},
		{slices.Repeat(list(elem("i")), api.MaxNodes+1), "", api.ErrMany},
		{slices.Repeat(list(note("")), api.MaxNodes+1), "", api.ErrMany},
	} {
		l, e := Again(c.l)
		if s := show(l); s != c.want || e != c.e || e != api.OK && len(l) > 0 {
			t.Errorf("Again(%s): %s, %v; want %s, %v", show(c.l), s, e, c.want, c.e)
		}
		holdAll(t, c.l)
	}
}

// backs are nodes that come back.
func backs() [][]api.Node {
	return [][]api.Node{
		nil,
		{},
		{text("a")},
		{text(" \n\t ")},
		{text("<p>&amp;\u00a0\"'\u20ac")},
		{elem("p", text("a")), elem("p", elem("b", text("c")), text("d"))},
		{elem("b", text("1")), elem("p", elem("b", text("2")), text("3"))},
		{elem("ul", elem("li", text("a"), elem("ul", elem("li"))), elem("li"))},
		{elem("table", elem("caption", text("x")), elem("tbody", elem("tr", elem("td", text("b")), elem("th"))))},
		{elem("pre", text("a\n\nb"))},
		{elem("style", text("<b>&amp;"))},
		{elem("xmp", text("<b>&amp;</b>"))},
		{elem("title", text("<b>&amp;"))},
		{elem("textarea", text("<b></textarea>"))},
		{elem("br"), elem("hr"), elem("img"), elem("input"), elem("wbr")},
		{with(elem("a", text("y")), "href", "\"<>&\n'\u00a0", "b", "")},
		{note(""), note("a"), note("a-b"), note("a-")},
		{in(api.SVG, elem("svg", in(api.SVG, elem("a", text("x"))), in(api.SVG, elem("title", elem("p")))))},
		{in(api.Math, elem("math", in(api.Math, elem("mi", elem("b", text("x"))))))},
		{elem("h1", elem("a", text("x"))), elem("blockquote", elem("p"), elem("section", elem("div")))},
	}
}

// shifts are nodes that don't come back, with those that they settle to, in one round.
func shifts() []struct {
	l    []api.Node
	want string
} {
	return []struct {
		l    []api.Node
		want string
	}{
		{list(elem("p", elem("p"))), "p()p()p()"},
		{list(elem("p", elem("div", text("x")))), "p()div(x)p()"},
		{list(elem("a", elem("a", text("x")))), "a()a(x)"},
		{list(elem("table", elem("tr", elem("td")))), "table(tbody(tr(td())))"},
		{list(elem("table", text("x"))), "xtable()"},
		{list(elem("pre", text("\nx"))), "pre(x)"},
		{list(elem("pre", text("\n"))), "pre()"},
		{list(elem("textarea", text("\nx"))), "textarea(x)"},
		{list(elem("title", elem("b", text("x")))), "title(<b>x</b>)"},
		{list(elem("style", text("</style>"), text("x"))), "style()x"},
		{list(elem("style", elem("b"))), "style(<b></b>)"},
		{list(elem("br", text("x"))), "br()"},
		{list(in(api.SVG, elem("br"))), "br()br()"},
		{list(elem("svg")), "svg:svg()"},
		{list(in(api.SVG, elem("g", text("x")))), "g(x)"},
		{list(elem("td", text("x"))), "x"},
		{list(elem("image")), "img()"},
		{list(note("-->x")), "!!x-->"},
		{list(text("")), ""},
		{list(text("a"), text("b")), "ab"},
		{list(text("a"), api.Node{}, text("b")), "ab"},
		{list(api.Node{}), ""},
		{list(api.Node{Kind: 4, Kids: list(text("x"))}), ""},
		{list(below(text("a"), text("b"))), "a"},
		{list(below(note("a"), elem("b"))), "!a!"},
		{list(text("a\r")), "a\n"},
		{list(text("\x00\xff")), "\ufffd\ufffd"},
		{list(with(elem("p"), "a", "\xff")), "p a=\ufffd()"},
		{list(with(elem("p"), "a", "1", "b", "2", "a", "3")), "p a=1 b=2()"},
		{list(with(elem("p"), "A", "1")), "p a=1()"},
		{list(elem("DIV", text("x"))), "div(x)"},
		{list(elem("b c", text("x"))), "b c=(x)"},
		{list(elem("", text("x"))), "<>x"},
		{list(in(3, elem("b", text("x")))), "b(x)"},
		{list(api.Node{Kind: api.Element, Name: "b", Text: "x"}), "b()"},
		{list(api.Node{Kind: api.Text, Name: "b", Text: "x"}), "x"},
		{list(api.Node{Kind: api.Text, Space: api.SVG, Text: "x"}), "x"},
		{list(with(text("x"), "a", "b")), "x"},
	}
}

// Promise 14.1: which nodes come back, alone, below others, and side by side.
func TestBack(t *testing.T) {
	for _, l := range backs() {
		for _, l := range [][]api.Node{l, list(elem("div", l...)), slices.Concat(l, list(elem("hr")), l), inside("section", 30, l...)} {
			if !Back(l) {
				t.Errorf("Back(%s): false", show(l))
			}
			holdAll(t, l)
		}
	}
	for _, c := range shifts() {
		for _, l := range [][]api.Node{c.l, list(elem("div", c.l...)), append(list(elem("hr")), c.l...), append(slices.Clone(c.l), elem("hr"))} {
			if Back(l) {
				t.Errorf("Back(%v): true", l)
			}
		}
	}
}

// Promise 14.1: what can't be read does not come back.
func TestBackOfErrors(t *testing.T) {
	for _, l := range [][]api.Node{
		{text(strings.Repeat("a", api.MaxText+1))},
		inside("i", api.MaxDepth+1),
		slices.Repeat(list(elem("i")), api.MaxNodes+1),
		inside("i", 100000),
		slices.Repeat(list(elem("i")), 100000),
	} {
		if _, e := Again(l); e == api.OK || Back(l) {
			t.Errorf("Back of what can't be read: %v", e)
		}
	}
	if !Back(inside("i", api.MaxDepth)) || !Back(slices.Repeat(list(elem("i")), api.MaxNodes)) || !Back(list(text(strings.Repeat("a", api.MaxText)))) {
		t.Error("Back at the limits: false")
	}
}

// Promise 14.2: nodes that come back settle in no round.
func TestSettleAtOnce(t *testing.T) {
	for _, l := range backs() {
		if m, n, e := Settle(l); n != 0 || e != api.OK || !tree.Same(l, m) {
			t.Errorf("Settle(%s): %s, %d, %v", show(l), show(m), n, e)
		}
	}
}

// Promise 14.2, and the document's example: nodes that settle in one round.
func TestSettleInOne(t *testing.T) {
	for _, c := range shifts() {
		m, n, e := Settle(c.l)
		if show(m) != c.want || n != 1 || e != api.OK || !Back(m) {
			t.Errorf("Settle(%v): %s, %d, %v; want %s", c.l, show(m), n, e, c.want)
		}
		holdAll(t, c.l)
	}
}

// Promise 14.2: nodes that settle in several rounds, in Most, and in more. A pre loses a line's end in each.
func TestSettleInSeveral(t *testing.T) {
	for lost := range 30 {
		for _, name := range []string{"pre", "textarea"} {
			for _, words := range []string{"", "x", "x\n"} {
				l := list(text("a"), elem(name, text(strings.Repeat("\n", lost)+words)))
				m, n, e := Settle(l)
				if lost > Most {
					if len(m) != 0 || n != 0 || e != api.ErrFull {
						t.Errorf("Settle of %d lines' ends: %s, %d, %v", lost, show(m), n, e)
					}
					continue
				}
				rounds := lost
				if lost == 0 && words == "" {
					rounds = 1 // an empty text goes
				}
				if want := "a" + name + "(" + words + ")"; show(m) != want || n != rounds || e != api.OK || !Back(m) {
					t.Errorf("Settle of %d lines' ends: %s, %d, %v; want %s", lost, show(m), n, e, want)
				}
				holdAll(t, l)
			}
		}
	}
	// What is fostered in the first round lets an item go in the second.
	l := list(elem("li", elem("table", elem("desc", elem("li"), text("y")))))
	if m, n, e := Settle(l); show(m) != "li(desc())li()ytable()" || n != 2 || e != api.OK {
		t.Errorf("Settle: %s, %d, %v", show(m), n, e)
	}
	if Most != 8 {
		t.Errorf("Most: %d", Most)
	}
}

// Promise 14.2: an error in the first round, and in a later one; it comes ahead of ErrFull.
func TestSettleErrors(t *testing.T) {
	ends := elem("pre", text(strings.Repeat("\n", 20)))
	// Texts that come out of a raw one are escaped from then on: they grow.
	grows := func(n int) api.Node { return elem("style", text("</style>"+strings.Repeat("&", n))) }
	// Items that are let go in the second round have a b of their own, each.
	items := func(n int) []api.Node {
		return list(elem("li", elem("table", elem("desc", elem("b", slices.Repeat(list(elem("li", text("1"))), n)...)))))
	}
	for i, c := range []struct {
		l      []api.Node
		rounds int // how many times it can be read
		e      api.Errno
	}{
		{list(text(strings.Repeat("a", api.MaxText+1))), 0, api.ErrLong},
		{list(ends, text(strings.Repeat("a", api.MaxText))), 0, api.ErrLong},
		{append(inside("i", api.MaxDepth+1), ends), 0, api.ErrDeep},
		{append(slices.Repeat(list(elem("i")), api.MaxNodes), ends), 0, api.ErrMany},
		{list(grows(1000)), 1, api.ErrLong},
		{list(grows(1000), ends), 1, api.ErrLong},
		{list(elem("xmp", text("</xmp>"+strings.Repeat("<", 1200)))), 1, api.ErrLong},
		{items(100), 1, api.ErrMany},
		{append(items(99), ends), 1, api.ErrMany},
		{append(inside("p", 150, text("x")), elem("br")), 0, api.ErrMany},
	} {
		l := c.l
		for range c.rounds {
			next, e := Again(l)
			if e != api.OK {
				t.Fatalf("list %d: %v, too early", i, e)
			}
			l = next
		}
		if _, e := Again(l); e != c.e {
			t.Errorf("list %d: %v in round %d; want %v", i, e, c.rounds+1, c.e)
		}
		if m, n, e := Settle(c.l); len(m) != 0 || n != 0 || e != c.e {
			t.Errorf("list %d: Settle: %s, %d, %v; want %v", i, show(m), n, e, c.e)
		}
		if Back(c.l) {
			t.Errorf("list %d: Back: true", i)
		}
		holdAll(t, c.l)
	}
	if _, n, e := Settle(list(grows(500))); n != 1 || e != api.OK {
		t.Errorf("Settle of what grows within the limit: %d, %v", n, e)
	}
	if _, n, e := Settle(items(90)); n != 2 || e != api.OK {
		t.Errorf("Settle of items: %d, %v", n, e)
	}
}

// plainDiffer is Differ, told as the chapter has it.
func plainDiffer(a, b []api.Node) ([]int, bool) {
	for i := range max(len(a), len(b)) {
		if i >= len(a) || i >= len(b) {
			return []int{i}, true
		}
		x, y := a[i], b[i]
		if x.Kind != y.Kind || x.Space != y.Space || x.Name != y.Name || x.Text != y.Text || fmt.Sprintf("%q", x.Attrs) != fmt.Sprintf("%q", y.Attrs) {
			return []int{i}, true
		}
		if way, is := plainDiffer(x.Kids, y.Kids); is {
			return append([]int{i}, way...), true
		}
	}
	return nil, false
}

// holdDiffer asks for the way to where two lists differ, whichever comes first, and that they are as they were. No way: they are the same.
func holdDiffer(t *testing.T, a, b []api.Node, want ...int) {
	t.Helper()
	wholeA, wholeB := whole(a), whole(b)
	for range 2 {
		way, is := Differ(a, b)
		if !slices.Equal(way, want) || is != (len(want) > 0) {
			t.Errorf("Differ(%s, %s): %v, %v; want %v", wholeA, wholeB, way, is, want)
		}
		way = way[:cap(way)]
		for i := range way {
			way[i] = -7
		}
		a, b = b, a
	}
	if whole(a) != wholeA || whole(b) != wholeB {
		t.Errorf("what was handed in was changed: %s, %s", wholeA, wholeB)
	}
}

// Promise 14.3: the same lists, empty ones, and lists of which one is longer.
func TestDifferLengths(t *testing.T) {
	holdDiffer(t, nil, nil)
	holdDiffer(t, nil, list())
	holdDiffer(t, list(), list())
	for _, l := range backs() {
		holdDiffer(t, l, l)
		holdDiffer(t, l, tree.Copy(l))
		holdDiffer(t, l, append(tree.Copy(l), text("x")), len(l))
		holdDiffer(t, list(elem("b", l...)), list(elem("b", append(tree.Copy(l), elem("b"), text("x"))...)), 0, len(l))
	}
	holdDiffer(t, nil, list(text("a")), 0)
	holdDiffer(t, list(), list(elem("p", text("a")), text("b")), 0)
	holdDiffer(t, list(elem("p")), list(elem("p"), elem("p")), 1)
	holdDiffer(t, list(elem("p")), list(elem("p", elem("p"))), 0, 0)
	holdDiffer(t, list(elem("p", text("a"))), list(elem("p", text("a"), elem("b"), elem("b"))), 0, 1)
	// Empty lists are the same as none.
	holdDiffer(t, list(api.Node{Kind: api.Element, Name: "p", Attrs: []api.Attr{}, Kids: list()}), list(elem("p")))
}

// Promise 14.3: nodes that differ in each part, whatever their Kids are; and deeper.
func TestDifferParts(t *testing.T) {
	was := api.Node{Kind: 1, Space: 1, Name: "p", Attrs: []api.Attr{{Name: "a", Value: "b"}, {Name: "c", Value: "d"}}, Text: "t", Kids: list(elem("b", text("x")))}
	change := func(f func(n *api.Node)) api.Node {
		n := tree.Copy(list(was))[0]
		f(&n)
		return n
	}
	for i, n := range []api.Node{
		change(func(n *api.Node) { n.Kind = 2 }),
		change(func(n *api.Node) { n.Kind = 7 }),
		change(func(n *api.Node) { n.Space = 2 }),
		change(func(n *api.Node) { n.Space = -1 }),
		change(func(n *api.Node) { n.Name = "P" }),
		change(func(n *api.Node) { n.Name = "" }),
		change(func(n *api.Node) { n.Text = "" }),
		change(func(n *api.Node) { n.Text = "t\x00" }),
		change(func(n *api.Node) { n.Attrs[0].Name = "b" }),
		change(func(n *api.Node) { n.Attrs[1].Value = "" }),
		change(func(n *api.Node) { n.Attrs = n.Attrs[:1] }),
		change(func(n *api.Node) { n.Attrs = nil }),
		change(func(n *api.Node) { slices.Reverse(n.Attrs) }),
		change(func(n *api.Node) { n.Attrs = append(n.Attrs, api.Attr{}) }),
	} {
		holdDiffer(t, list(was), list(n), 0)
		n.Kids = nil
		holdDiffer(t, list(was), list(n), 0)
		holdDiffer(t, list(text("1"), was, text("2")), list(text("1"), n, text("3")), 1)
		holdDiffer(t, list(elem("i", text("1"), elem("u", was)), text("2")), list(elem("i", text("1"), elem("u", n))), 0, 1, 0)
		if is := tree.Same(list(was), list(n)); is {
			t.Errorf("change %d is none", i)
		}
	}
	// Kids of texts, of comments and of what is neither are held against each other, too.
	for _, k := range []int{0, 2, 3, 9} {
		n := api.Node{Kind: k, Text: "x"}
		holdDiffer(t, list(below(n, text("a"), text("b"))), list(below(n, text("a"), text("c"))), 0, 1)
		holdDiffer(t, list(below(n, text("a"))), list(n), 0, 0)
	}
}

// Promise 14.3: a node ahead of its kids, and these ahead of what is behind it.
func TestDifferOrder(t *testing.T) {
	holdDiffer(t, list(elem("p", text("a")), text("b")), list(elem("p", text("x")), text("y")), 0, 0)
	holdDiffer(t, list(elem("p", text("a")), text("b")), list(elem("i", text("x")), text("y")), 0)
	holdDiffer(t, list(elem("p", text("a")), text("b")), list(elem("p", text("a")), text("y")), 1)
	holdDiffer(t, list(elem("p", text("a"))), list(elem("p", text("x")), text("y")), 0, 0)
	holdDiffer(t, list(elem("p", elem("b", text("a")), text("c"))), list(elem("p", elem("b"), text("d"))), 0, 0, 0)
	holdDiffer(t, list(elem("p", elem("b", text("a")), text("c")), text("e")), list(elem("p", elem("b", text("a"))), text("f")), 0, 1)
	holdDiffer(t, list(elem("p", elem("b", elem("i"), elem("u", text("x")))), elem("p")), list(elem("p", elem("b", elem("i"), elem("u", text("y")))), elem("q")), 0, 0, 1, 0)
	holdDiffer(t, list(elem("p"), elem("p", elem("b"), elem("b", elem("i")))), list(elem("p"), elem("p", elem("b"), elem("b", elem("u")))), 1, 1, 0)
}

// forests are all lists of just n nodes, each of which is one of heads with some of the others as kids.
func forests(n int, heads []api.Node) [][]api.Node {
	if n == 0 {
		return [][]api.Node{nil}
	}
	var all [][]api.Node
	for _, h := range heads {
		for k := range n {
			for _, kids := range forests(k, heads) {
				for _, rest := range forests(n-1-k, heads) {
					all = append(all, append(list(below(h, kids...)), rest...))
				}
			}
		}
	}
	return all
}

// Promise 14.3: any two small lists; there is a way just if they are not the same.
func TestDifferSmall(t *testing.T) {
	var all [][]api.Node
	for n := range 4 {
		all = append(all, forests(n, list(text("a"), elem("p"), elem("b")))...)
	}
	for _, a := range all {
		for _, b := range all {
			want, differ := plainDiffer(a, b)
			way, is := Differ(a, b)
			if !slices.Equal(way, want) || is != differ || is == tree.Same(a, b) {
				t.Fatalf("Differ(%s, %s): %v, %v; want %v", show(a), show(b), way, is, want)
			}
		}
	}
}

// Promise 14.3: nodes that lie far deeper, and are far more, than the limits.
func TestDifferGreat(t *testing.T) {
	const deep = 500000
	a, b := inside("i", deep, text("a")), inside("i", deep, text("b"))
	way, is := Differ(a, b)
	if !is || !slices.Equal(way, make([]int, deep+1)) {
		t.Errorf("Differ of deep nodes: %d steps, %v", len(way), is)
	}
	if way, is := Differ(a, inside("i", deep, text("a"))); len(way) != 0 || is {
		t.Errorf("Differ of deep nodes: %d steps, %v", len(way), is)
	}
	const many = 200000
	l := slices.Repeat(list(elem("p", text("x"))), many)
	if way, is := Differ(l, append(slices.Clone(l[1:]), elem("p", text("x"), text("y")))); !is || !slices.Equal(way, []int{many - 1, 1}) {
		t.Errorf("Differ of many nodes: %v, %v", way, is)
	}
}

// someNodes are nodes by chance, most of them of names that move when they are read.
func someNodes(r *rand.Rand, depth int, left *int) []api.Node {
	names := strings.Fields("p p a b i table tr td tbody caption div li pre svg math mi title desc style xmp textarea br h1 span P")
	texts := []string{"x", "\n", "\n\ny", " ", "<", "</style>", "", "\xff", "-->", "&amp;"}
	var l []api.Node
	for k := r.Intn(4); k > 0 && *left > 0; k-- {
		*left--
		n := api.Node{Kind: api.Element, Name: names[r.Intn(len(names))], Space: max(0, r.Intn(6)-3)}
		switch r.Intn(8) {
		case 0, 1:
			n = text(texts[r.Intn(len(texts))])
		case 2:
			n = note(texts[r.Intn(len(texts))])
		case 3:
			n = with(n, names[r.Intn(len(names))], texts[r.Intn(len(texts))])
		}
		if depth > 0 && n.Kind == api.Element {
			n.Kids = someNodes(r, depth-1, left)
		}
		l = append(l, n)
	}
	return l
}

// Promises 14.1 to 14.4: of nodes by chance, what the chapter tells; what they settle to comes back, over and over as the same; Differ tells where they are not back.
func TestChance(t *testing.T) {
	r := rand.New(rand.NewSource(14))
	for range 3000 {
		left := 5 + r.Intn(60)
		l := someNodes(r, 12, &left)
		if again, e := Again(l); e == api.OK {
			want, differ := plainDiffer(l, again)
			if differ == Back(l) {
				t.Fatalf("Back(%v): %v", l, !differ)
			}
			holdDiffer(t, l, again, want...)
		}
		holdAll(t, l)
		if m, _, e := Settle(l); e == api.OK {
			holdStays(t, m)
		}
		if t.Failed() {
			return
		}
	}
}

// holdStays asks that nodes that come back are written, and read, over and over as the same.
func holdStays(t *testing.T, l []api.Node) {
	t.Helper()
	s := print.Text(l)
	for range 3 {
		next, e := Again(l)
		if e != api.OK || !tree.Same(l, next) || print.Text(next) != s || !Back(next) {
			t.Fatalf("what comes back does not stay: %s, then %s, %v", show(l), show(next), e)
		}
		if m, n, e := Settle(l); n != 0 || e != api.OK || !tree.Same(l, m) {
			t.Fatalf("what comes back does not settle at once: %s, then %s, %d, %v", show(l), show(m), n, e)
		}
		l = next
	}
}

// Promise 14.4: what comes back stays.
func TestStays(t *testing.T) {
	for _, l := range backs() {
		holdStays(t, l)
	}
	for _, l := range forests(3, list(text("<\n"), elem("p"), elem("b"), elem("pre"), elem("table"), note("x"))) {
		if Back(l) {
			holdStays(t, l)
		}
	}
}

// plainHeads are elements that nothing is told of, and that may stand in one another.
func plainHeads() []api.Node {
	return list(elem("div"), elem("span"), elem("section"), elem("blockquote"), elem("ul"), elem("ol"), elem("x-y:1"), with(elem("div"), "a", "<\"&>"), with(elem("abbr"), "title", "", "b", "\n"))
}

// Promise 14.5: plain elements, in one another, with texts, come back: all small ones.
func TestPlainComeBack(t *testing.T) {
	heads := append(plainHeads(), text("a"), text("<b>"), text("&lt;"), text("\n "), text("\u00a0\u20ac"))
	for n := range 4 {
		for _, l := range forests(n, heads) {
			if tree.Check(l) == api.OK && !Back(l) {
				t.Fatalf("Back(%s): false", show(l))
			}
		}
	}
}

// plainNodes are right plain elements, in one another, with texts, by chance.
func plainNodes(r *rand.Rand, depth int, left *int) []api.Node {
	heads, texts := plainHeads(), []string{"a", "<", "&amp;", "\n", "</div>", "\"", "x y\u00a0z"}
	var l []api.Node
	for k := 1 + r.Intn(5); k > 0 && *left > 0; k-- {
		*left--
		if r.Intn(3) == 0 && (len(l) == 0 || l[len(l)-1].Kind != api.Text) {
			l = append(l, text(texts[r.Intn(len(texts))]))
			continue
		}
		n := heads[r.Intn(len(heads))]
		if depth > 1 {
			n.Kids = plainNodes(r, depth-1, left)
		}
		l = append(l, n)
	}
	return l
}

// Promise 14.5: great ones, too, up to the limits.
func TestPlainComeBackByChance(t *testing.T) {
	r := rand.New(rand.NewSource(145))
	most, deepest := 0, 0
	for range 3000 {
		left := 1 + r.Intn(api.MaxNodes)
		l := plainNodes(r, api.MaxDepth, &left)
		if print.Size(l) > api.MaxText {
			continue
		}
		most, deepest = max(most, tree.Count(l)), max(deepest, tree.Depth(l))
		if tree.Check(l) != api.OK || !Back(l) {
			t.Fatalf("Back(%s): false", show(l))
		}
	}
	if most < 100 || deepest < api.MaxDepth {
		t.Errorf("at most %d nodes, %d deep", most, deepest)
	}
	for _, h := range plainHeads()[:6] {
		if !Back(inside(h.Name, api.MaxDepth, text("x"))) || !Back(slices.Repeat(list(below(h, text("x"))), api.MaxNodes/2)[:140]) {
			t.Errorf("%s at the limits does not come back", h.Name)
		}
	}
}
