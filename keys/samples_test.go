package keys

import (
	"fmt"
	"math/rand"
	"slices"
	"strings"

	"recto/api"
)

func text(s string) api.Node { return api.Node{Kind: api.Text, Text: s} }
func note(s string) api.Node { return api.Node{Kind: api.Comment, Text: s} }

func elem(name string, kids ...api.Node) api.Node {
	return api.Node{Kind: api.Element, Name: name, Kids: kids}
}

func in(space int, n api.Node) api.Node {
	n.Space = space
	return n
}

func with(n api.Node, attrs ...string) api.Node {
	n.Attrs = nil
	for i := 0; i < len(attrs); i += 2 {
		n.Attrs = append(n.Attrs, api.Attr{Name: attrs[i], Value: attrs[i+1]})
	}
	return n
}

// kind is a node of that Kind, whatever it is, with kids.
func kind(k int, kids ...api.Node) api.Node { return api.Node{Kind: k, Kids: kids} }

func list(l ...api.Node) []api.Node { return l }

func way(l ...int) []int { return l }

// deep is what l is in that many elements.
func deep(n int, l ...api.Node) []api.Node {
	for range n {
		l = list(elem("b", l...))
	}
	return l
}

// many are that many nodes, side by side.
func many(n int, node api.Node) []api.Node { return slices.Repeat(list(node), n) }

// show is right nodes in short: 'words', <!notes>, and names with kids in brackets.
func show(l []api.Node) string {
	var b strings.Builder
	for _, n := range l {
		switch n.Kind {
		case api.Text:
			b.WriteString("'" + n.Text + "'")
		case api.Comment:
			b.WriteString("<!" + n.Text + ">")
		case api.Element:
			b.WriteString(n.Name)
		default:
			fmt.Fprintf(&b, "?%d", n.Kind)
		}
		if n.Kind == api.Element || len(n.Kids) > 0 {
			b.WriteString("(" + show(n.Kids) + ")")
		}
	}
	return b.String()
}

// whole tells all that nodes have, so that a change shows; spare room too.
func whole(l []api.Node) string {
	var b strings.Builder
	for i, n := range l[:cap(l)] {
		fmt.Fprintf(&b, "(%v %d %d %q %d %q %q", i < len(l), n.Kind, n.Space, n.Name, len(n.Attrs), n.Attrs[:cap(n.Attrs)], n.Text)
		b.WriteString(whole(n.Kids) + ")")
	}
	return b.String()
}

// wholeWay tells all of a way, spare room too.
func wholeWay(w []int) string { return fmt.Sprint(len(w), w[:cap(w)]) }

// junk is written into what should be nobody's.
var junk = api.Node{Kind: 99, Space: 9, Name: "junk", Text: "junk"}

// widen writes junk into the spare room that lists have: where they share memory, it shows.
func widen(l []api.Node) {
	for i := range l[len(l):cap(l)] {
		l[len(l):cap(l)][i] = junk
	}
	for _, n := range l {
		for i := range n.Attrs[len(n.Attrs):cap(n.Attrs)] {
			n.Attrs[len(n.Attrs):cap(n.Attrs)][i] = api.Attr{Name: "junk", Value: "junk"}
		}
		widen(n.Kids)
	}
}

// spoil writes junk over all that lists have, spare room too.
func spoil(l []api.Node) {
	widen(l)
	for i := range l {
		for j := range l[i].Attrs {
			l[i].Attrs[j] = api.Attr{Name: "junk", Value: "junk"}
		}
		spoil(l[i].Kids)
		l[i] = junk
	}
}

// roomy are the same nodes in lists that have junk as spare room.
func roomy(l []api.Node) []api.Node {
	var r []api.Node
	for _, n := range l {
		n.Kids = roomy(n.Kids)
		n.Attrs = append(slices.Clone(n.Attrs), api.Attr{Name: "junk"})[:len(n.Attrs)]
		r = append(r, n)
	}
	return append(r, junk)[:len(l)]
}

// copies are the same nodes in new memory, without spare room.
func copies(l []api.Node) []api.Node {
	c := make([]api.Node, len(l))
	for i, n := range l {
		n.Kids = copies(n.Kids)
		n.Attrs = append([]api.Attr{}, n.Attrs...)
		c[i] = n
	}
	return c
}

func same(a, b []api.Node) bool {
	return slices.EqualFunc(a, b, func(n, m api.Node) bool {
		return n.Kind == m.Kind && n.Space == m.Space && n.Name == m.Name && n.Text == m.Text && slices.Equal(n.Attrs, m.Attrs) && same(n.Kids, m.Kids)
	})
}

func empty(n api.Node) bool { return same(list(n), list(api.Node{})) }

func count(l []api.Node) int {
	c := len(l)
	for _, n := range l {
		c += count(n.Kids)
	}
	return c
}

// place is a node as the chapter tells of it: its item, its way, and itself.
type place struct {
	item Item
	way  []int
	node api.Node
}

// places are all nodes in their order, as the chapter tells it.
func places(l []api.Node) []place {
	var all []place
	var list func(l []api.Node, parent int, ahead []int)
	list = func(l []api.Node, parent int, ahead []int) {
		for i, n := range l {
			number := len(all)
			w := append(slices.Clone(ahead), i)
			all = append(all, place{Item{number, parent, i, len(ahead), 1 + count(n.Kids)}, w, n})
			list(n.Kids, number, w)
		}
	}
	list(l, -1, nil)
	return all
}

// forests are all lists of just n nodes, each of which is one of heads with some of the others as kids.
func forests(n int, heads []api.Node) [][]api.Node {
	if n == 0 {
		return [][]api.Node{nil}
	}
	var all [][]api.Node
	for k := range n {
		kids, rests := forests(k, heads), forests(n-1-k, heads)
		for _, h := range heads {
			for _, kid := range kids {
				for _, rest := range rests {
					h.Kids = kid
					all = append(all, append(list(h), rest...))
				}
			}
		}
	}
	return all
}

// smalls are all lists of at most n nodes with these heads.
func smalls(n int, heads ...api.Node) [][]api.Node {
	var all [][]api.Node
	for k := range n + 1 {
		all = append(all, forests(k, heads)...)
	}
	return all
}

// some is a list of nodes, by chance, with all that may be wrong.
func some(r *rand.Rand, depth int) []api.Node {
	words := []string{"", "a", "b", "ab", "\x00", "\r", "\xff", "1 ", " "}
	word := func() string { return words[r.Intn(len(words))] }
	var l []api.Node
	for range r.Intn(5) {
		n := api.Node{Kind: 1 + r.Intn(3), Text: word()}
		if r.Intn(3) > 0 {
			n = elem(word())
		}
		if r.Intn(6) == 0 {
			n.Kind, n.Space = r.Intn(6)-1, r.Intn(5)-1
		}
		for range r.Intn(3) {
			n.Attrs = append(n.Attrs, api.Attr{Name: word(), Value: word()})
		}
		if depth > 0 {
			n.Kids = some(r, depth-1)
		}
		l = append(l, n)
	}
	return l
}

// wrongs are nodes that are not right, of each sort.
func wrongs() [][]api.Node {
	full := with(elem("p", note("")), "a", "b")
	full.Text = "t"
	odd := with(in(api.SVG, text("t")), "a", "b")
	odd.Name, odd.Kids = "p", list(text("k"), note("k"))
	return [][]api.Node{
		{{}},
		{text(""), text("")},
		{text("a"), text("b"), elem("p", text("a"), text("a"))},
		{kind(0, kind(-1, kind(4)), kind(-1<<63, kind(1<<63-1)))},
		{in(3, elem("p", in(-1, elem("p"))))},
		{elem(""), elem("P"), elem("\x00"), elem(strings.Repeat("p", api.MaxName+1))},
		{with(elem("p", with(elem("p"), "a", "1", "a", "1")), "", "\xff", "\r", "")},
		{text("\xff"), note("\x00"), full, odd, kind(api.Comment, odd, full)},
		{kind(api.Text, kind(api.Text, elem("p")), text("a"))},
	}
}

// lists are nodes of all sorts: right ones, at the limits and beyond them, and wrong ones.
func lists() [][]api.Node {
	all := [][]api.Node{
		nil,
		{},
		{text("a")},
		{note("")},
		{elem("p")},
		{elem("p", elem("b")), elem("i")},
		{elem("p", elem("b", text("x")), text("y")), text("z")},
		{with(elem("p", in(api.SVG, with(elem("g"), "c", "d")), in(api.Math, elem("mi", note("n"), text("x")))), "a", "b", "b", "a"), note("m"), elem("p", elem("p"))},
		{elem("p"), elem("p"), elem("p", elem("p"), elem("p", elem("p"), elem("p")), elem("p")), elem("p")},
		deep(api.MaxDepth),
		deep(api.MaxDepth, text("a"), note("b"), text("c")),
		deep(api.MaxDepth+1, text("a")),
		deep(100, deep(3)[0], text("a"), deep(5)[0]),
		many(api.MaxNodes, elem("b")),
		many(api.MaxNodes+1, elem("b")),
		{elem("p", many(api.MaxNodes-1, note("a"))...)},
		many(api.MaxNodes/2, elem("b", text("a"))),
	}
	all = append(all, wrongs()...)
	r := rand.New(rand.NewSource(19))
	for range 60 {
		all = append(all, some(r, 3))
	}
	return all
}
