package match

import (
	"fmt"
	"math/rand"
	"slices"
	"strings"

	"recto/api"
	"recto/keys"
)

func text(s string) api.Node { return api.Node{Kind: api.Text, Text: s} }
func note(s string) api.Node { return api.Node{Kind: api.Comment, Text: s} }

func elem(name string, kids ...api.Node) api.Node {
	return api.Node{Kind: api.Element, Name: name, Kids: kids}
}

func in(space int, n api.Node) api.Node {
	n.Space = space
	return n
}

func with(n api.Node, attrs ...string) api.Node {
	n.Attrs = nil
	for i := 0; i < len(attrs); i += 2 {
		n.Attrs = append(n.Attrs, api.Attr{Name: attrs[i], Value: attrs[i+1]})
	}
	return n
}

// kind is a node of that Kind, whatever it is, with kids.
func kind(k int, kids ...api.Node) api.Node { return api.Node{Kind: k, Kids: kids} }

// p is a paragraph of a text.
func p(s string) api.Node { return elem("p", text(s)) }

func list(l ...api.Node) []api.Node { return l }

// letters are the texts of one letter each of which s is made.
func letters(s string) []string { return strings.Split(s, "")[:len(s)] }

// deep is what l is in that many elements.
func deep(n int, l ...api.Node) []api.Node {
	for range n {
		l = list(elem("b", l...))
	}
	return l
}

// many are that many nodes, side by side.
func many(n int, node api.Node) []api.Node { return slices.Repeat(list(node), n) }

// paragraphs are those of one letter each of which s is made.
func paragraphs(s string) []api.Node {
	var l []api.Node
	for _, x := range letters(s) {
		l = append(l, p(x))
	}
	return l
}

// tell is pairs in short: both places, and ! behind those that are whole.
func tell(l []Pair) string {
	var all []string
	for _, p := range l {
		s := fmt.Sprintf("%d-%d", p.A, p.B)
		if p.Whole {
			s += "!"
		}
		all = append(all, s)
	}
	return strings.Join(all, " ")
}

// show tells nodes in not too many words.
func show(l []api.Node) string {
	s := ""
	for _, n := range l {
		if len(s) > 200 {
			return s + ".."
		}
		s += fmt.Sprintf("%d/%d %s%q%q(%s)", n.Kind, n.Space, n.Name, n.Text, n.Attrs, show(n.Kids))
	}
	return s
}

// whole tells all that nodes have, so that a change shows; spare room too.
func whole(l []api.Node) string {
	var b strings.Builder
	for i, n := range l[:cap(l)] {
		fmt.Fprintf(&b, "(%v %d %d %q %d %q %q", i < len(l), n.Kind, n.Space, n.Name, len(n.Attrs), n.Attrs[:cap(n.Attrs)], n.Text)
		b.WriteString(whole(n.Kids) + ")")
	}
	return b.String()
}

// roomy are the same nodes in other memory, in lists that have something as spare room.
func roomy(l []api.Node) []api.Node {
	var r []api.Node
	for _, n := range l {
		n.Kids = roomy(n.Kids)
		n.Attrs = append(slices.Clone(n.Attrs), api.Attr{Name: "junk"})[:len(n.Attrs)]
		r = append(r, n)
	}
	return append(r, kind(99))[:len(l)]
}

func same(a, b []api.Node) bool { return slices.EqualFunc(a, b, sameNode) }

func sameNode(n, m api.Node) bool {
	return sameLabel(n, m) && n.Text == m.Text && slices.Equal(n.Attrs, m.Attrs) && same(n.Kids, m.Kids)
}

func sameLabel(n, m api.Node) bool {
	return n.Kind == m.Kind && n.Space == m.Space && n.Name == m.Name
}

func count(l []api.Node) int {
	c := len(l)
	for _, n := range l {
		c += count(n.Kids)
	}
	return c
}

// inRow are all nodes by their numbers, and their parents' numbers.
func inRow(l []api.Node) (nodes []api.Node, parents []int) {
	var add func(l []api.Node, parent int)
	add = func(l []api.Node, parent int) {
		for _, n := range l {
			nodes, parents = append(nodes, n), append(parents, parent)
			add(n.Kids, len(nodes)-1)
		}
	}
	add(l, -1)
	return nodes, parents
}

// plainLine lines up two lists of na and nb things, of which equal tells which are the same, as the chapter tells it.
func plainLine(na, nb int, equal func(i, j int) bool) []Pair {
	most := map[[2]int]int{}
	var can func(i, j int) int // how many pairs can be had from there on
	can = func(i, j int) int {
		if i >= na || j >= nb {
			return 0
		}
		at := [2]int{i, j}
		if n, is := most[at]; is {
			return n
		}
		n := max(can(i+1, j), can(i, j+1))
		if equal(i, j) {
			n = max(n, can(i+1, j+1)+1)
		}
		most[at] = n
		return n
	}
	var all []Pair
	for i, j := 0, 0; i < na && j < nb; {
		if equal(i, j) {
			all = append(all, Pair{A: i, B: j, Whole: true})
			i++
			j++
		} else if can(i+1, j) >= can(i, j+1) {
			i++
		} else {
			j++
		}
	}
	return all
}

func plainTexts(a, b []string) []Pair {
	return plainLine(len(a), len(b), func(i, j int) bool { return a[i] == b[j] })
}

// plainLists matches two lists of nodes, as the chapter tells it.
func plainLists(a, b []api.Node) []Pair {
	var all []Pair
	i, j := 0, 0
	for _, p := range append(plainLine(len(a), len(b), func(i, j int) bool { return sameNode(a[i], b[j]) }), Pair{A: len(a), B: len(b)}) {
		for ; i < p.A; i++ {
			for k := j; k < p.B; k++ {
				if sameLabel(a[i], b[k]) {
					all = append(all, Pair{A: i, B: k})
					j = k + 1
					break
				}
			}
		}
		all = append(all, p)
		i, j = p.A+1, p.B+1
	}
	return all[:len(all)-1]
}

// plainPages matches two pages, as the chapter tells it. Their first nodes have the numbers fromA and fromB.
func plainPages(a, b []api.Node, fromA, fromB int) []Pair {
	var all []Pair
	for _, p := range plainLists(a, b) {
		numberA, numberB := fromA+count(a[:p.A]), fromB+count(b[:p.B])
		if p.Whole {
			for i := range count(a[p.A : p.A+1]) {
				all = append(all, Pair{A: numberA + i, B: numberB + i, Whole: true})
			}
			continue
		}
		all = append(all, Pair{A: numberA, B: numberB})
		all = append(all, plainPages(a[p.A].Kids, b[p.B].Kids, numberA+1, numberB+1)...)
	}
	return all
}

// forests are all lists of just n nodes, each of which is one of heads with some of the others as kids.
func forests(n int, heads []api.Node) [][]api.Node {
	if n == 0 {
		return [][]api.Node{nil}
	}
	var all [][]api.Node
	for k := range n {
		kids, rests := forests(k, heads), forests(n-1-k, heads)
		for _, h := range heads {
			for _, kid := range kids {
				for _, rest := range rests {
					h.Kids = kid
					all = append(all, append(list(h), rest...))
				}
			}
		}
	}
	return all
}

// smalls are all lists of at most n nodes with these heads.
func smalls(n int, heads ...api.Node) [][]api.Node {
	var all [][]api.Node
	for k := range n + 1 {
		all = append(all, forests(k, heads)...)
	}
	return all
}

// words are all lists of at most n texts out of some.
func words(n int, of ...string) [][]string {
	all := [][]string{nil}
	last := all
	for range n {
		var next [][]string
		for _, l := range last {
			for _, s := range of {
				next = append(next, append(slices.Clone(l), s))
			}
		}
		all, last = append(all, next...), next
	}
	return all
}

// some is a list of nodes, by chance, with all that may be wrong.
func some(r *rand.Rand, depth int) []api.Node {
	var l []api.Node
	for range r.Intn(6) {
		n := one(r)
		if depth > 0 {
			n.Kids = some(r, depth-1)
		}
		l = append(l, n)
	}
	return l
}

// one is a node without kids, by chance.
func one(r *rand.Rand) api.Node {
	words := []string{"", "a", "b", "\xff"}
	word := func() string { return words[r.Intn(len(words))] }
	n := api.Node{Kind: 1 + r.Intn(3), Text: word()}
	if r.Intn(3) > 0 {
		n = elem(word())
	}
	if r.Intn(9) == 0 {
		n.Kind, n.Space = r.Intn(5)-1, r.Intn(5)-1
	}
	for range r.Intn(3) * r.Intn(2) {
		n.Attrs = append(n.Attrs, api.Attr{Name: word(), Value: word()})
	}
	return n
}

// edited is a page with some changes, by chance.
func edited(r *rand.Rand, l []api.Node) []api.Node {
	for range r.Intn(5) {
		c := count(l)
		if c == 0 {
			return l
		}
		way, _ := keys.Way(l, r.Intn(c))
		n, _ := keys.At(l, way)
		switch r.Intn(5) {
		case 0:
			l, _ = keys.Cut(l, way)
		case 1:
			l, _ = keys.Insert(l, way, one(r))
		case 2:
			n.Text = one(r).Text
			l, _ = keys.Put(l, way, n)
		case 3:
			n.Attrs = one(r).Attrs
			l, _ = keys.Put(l, way, n)
		case 4:
			l, _ = keys.Insert(l, way, n)
		}
	}
	return l
}

// wrongs are nodes that are not right, of each sort.
func wrongs() [][]api.Node {
	full := with(elem("p", note("")), "a", "b")
	full.Text = "t"
	odd := with(in(api.SVG, text("t")), "a", "b")
	odd.Name, odd.Kids = "p", list(text("k"), note("k"))
	return [][]api.Node{
		{{}},
		{text(""), text("")},
		{text("a"), text("b"), elem("p", text("a"), text("a"))},
		{kind(0, kind(-1, kind(4)), kind(-1<<63, kind(1<<63-1)))},
		{in(3, elem("p", in(-1, elem("p"))))},
		{elem(""), elem("P"), elem("\x00"), elem(strings.Repeat("p", api.MaxName+1))},
		{with(elem("p", with(elem("p"), "a", "1", "a", "1")), "", "\xff", "\r", "")},
		{text("\xff"), note("\x00"), full, odd, kind(api.Comment, odd, full)},
		{kind(api.Text, kind(api.Text, elem("p")), text("a"))},
		{kind(api.Text, kind(api.Text, elem("b")), text("b"))},
	}
}

// pages are pages of all sorts: right ones, at the limits and beyond them, and wrong ones.
func pages() [][]api.Node {
	return append([][]api.Node{
		nil,
		{},
		{text("a")},
		{note("")},
		{elem("p")},
		{p("1"), p("2"), text("x")},
		{p("0"), elem("b"), p("2"), elem("i"), text("y")},
		{elem("div", p("1"), elem("ul", elem("li", p("2")), elem("li", text("3")))), note("n"), p("4")},
		{elem("div", elem("ul", elem("li", text("3")), elem("li", p("2"), p("2")))), p("4"), note("m")},
		{in(api.SVG, with(elem("svg", in(api.SVG, elem("g"))), "a", "b")), in(api.Math, elem("math")), elem("math")},
		deep(api.MaxDepth),
		deep(api.MaxDepth, text("a"), note("b"), text("c")),
		deep(api.MaxDepth, text("b"), elem("i"), text("c")),
		deep(api.MaxDepth+1, text("a")),
		many(api.MaxNodes, elem("b")),
		many(api.MaxNodes+1, elem("b")),
		{elem("p", many(api.MaxNodes-1, note("a"))...)},
		many(api.MaxNodes/2, p("a")),
		slices.Concat(many(50, p("a")), many(50, p("b")), many(50, p("a"))),
	}, wrongs()...)
}
