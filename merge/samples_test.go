package merge

import (
	"fmt"
	"math/rand"
	"slices"
	"strings"

	"recto/api"
	"recto/blend"
)

func text(s string) api.Node { return api.Node{Kind: api.Text, Text: s} }
func note(s string) api.Node { return api.Node{Kind: api.Comment, Text: s} }

func elem(name string, kids ...api.Node) api.Node {
	return api.Node{Kind: api.Element, Name: name, Kids: kids}
}

func in(space int, n api.Node) api.Node {
	n.Space = space
	return n
}

// with is a node with these attributes besides its own.
func with(n api.Node, l ...string) api.Node {
	n.Attrs = slices.Clone(n.Attrs)
	for i := 0; i < len(l); i += 2 {
		n.Attrs = append(n.Attrs, api.Attr{Name: l[i], Value: l[i+1]})
	}
	return n
}

// holding is a node with other kids.
func holding(n api.Node, kids ...api.Node) api.Node {
	n.Kids = kids
	return n
}

// saying is a node with another Text.
func saying(n api.Node, s string) api.Node {
	n.Text = s
	return n
}

// kind is a node of that Kind, whatever it is, with kids.
func kind(k int, kids ...api.Node) api.Node { return api.Node{Kind: k, Kids: kids} }

// p is a paragraph of a text.
func p(s string) api.Node { return elem("p", text(s)) }

func list(l ...api.Node) []api.Node { return l }

// deep is what l is in that many elements.
func deep(n int, l ...api.Node) []api.Node {
	for range n {
		l = list(elem("b", l...))
	}
	return l
}

// class is a section of that class.
func class(s string, kids ...api.Node) api.Node { return with(elem("section", kids...), "class", s) }

// clash is a mark of two lists.
func clash(a, b []api.Node) api.Node {
	return class("clash", class("ours", a...), class("theirs", b...))
}

// show is nodes in short: 'words', <!notes>, and names with attributes, and with kids in brackets.
func show(l []api.Node) string {
	var b strings.Builder
	for _, n := range l {
		if b.Len() > 400 {
			return b.String() + ".."
		}
		switch n.Kind {
		case api.Text:
			b.WriteString("'" + n.Text + "'")
		case api.Comment:
			b.WriteString("<!" + n.Text + ">")
		case api.Element:
			b.WriteString(n.Name + n.Text)
		default:
			fmt.Fprintf(&b, "?%d%q%q", n.Kind, n.Name, n.Text)
		}
		if n.Space != 0 {
			fmt.Fprintf(&b, "/%d", n.Space)
		}
		for _, a := range n.Attrs {
			b.WriteString("[" + a.Name + "=" + a.Value + "]")
		}
		if n.Kind == api.Element || len(n.Kids) > 0 {
			b.WriteString("(" + show(n.Kids) + ")")
		}
	}
	return b.String()
}

// whole tells all that nodes have, so that a change shows; spare room too.
func whole(l []api.Node) string {
	var b strings.Builder
	for i, n := range l[:cap(l)] {
		fmt.Fprintf(&b, "(%v %d %d %q %d %q %q", i < len(l), n.Kind, n.Space, n.Name, len(n.Attrs), n.Attrs[:cap(n.Attrs)], n.Text)
		b.WriteString(whole(n.Kids) + ")")
	}
	return b.String()
}

// junk is written into what should be nobody's.
var junk = api.Node{Kind: 99, Space: 9, Name: "junk", Text: "junk"}

// spoil writes junk over all that lists have, spare room too.
func spoil(l []api.Node) {
	for i := range l[:cap(l)] {
		n := &l[:cap(l)][i]
		for j := range n.Attrs[:cap(n.Attrs)] {
			n.Attrs[:cap(n.Attrs)][j] = api.Attr{Name: "junk", Value: "junk"}
		}
		spoil(n.Kids)
		*n = junk
	}
}

// widen writes junk into the spare room of lists alone.
func widen(l []api.Node) {
	for i := range l {
		n := &l[i]
		widen(n.Kids)
		for j := len(n.Attrs); j < cap(n.Attrs); j++ {
			n.Attrs[:cap(n.Attrs)][j] = api.Attr{Name: "junk", Value: "junk"}
		}
	}
	for i := len(l); i < cap(l); i++ {
		l[:cap(l)][i] = junk
	}
}

// roomy are the same nodes in other memory, in lists that have junk as spare room.
func roomy(l []api.Node) []api.Node {
	var r []api.Node
	for _, n := range l {
		n.Kids = roomy(n.Kids)
		n.Attrs = append(slices.Clone(n.Attrs), api.Attr{Name: "junk"})[:len(n.Attrs)]
		r = append(r, n)
	}
	return append(r, junk)[:len(l)]
}

func same(a, b []api.Node) bool { return slices.EqualFunc(a, b, sameNode) }

func sameNode(n, m api.Node) bool {
	return n.Kind == m.Kind && n.Space == m.Space && n.Name == m.Name && n.Text == m.Text && slices.Equal(n.Attrs, m.Attrs) && same(n.Kids, m.Kids)
}

// asides tells whether texts stand side by side in nodes, at any depth.
func asides(l []api.Node) bool {
	for i, n := range l {
		if i > 0 && n.Kind == api.Text && l[i-1].Kind == api.Text || asides(n.Kids) {
			return true
		}
	}
	return false
}

// plainAdd puts a node behind others, as one with the last one, if both are texts.
func plainAdd(l []api.Node, n api.Node) []api.Node {
	last := len(l) - 1
	if last < 0 || n.Kind != api.Text || l[last].Kind != api.Text {
		return append(l, n)
	}
	m := l[last]
	m.Text += n.Text
	m.Kids = plainJoin(slices.Concat(m.Kids, n.Kids))
	return append(l[:last:last], m)
}

func plainJoin(l []api.Node) []api.Node {
	var all []api.Node
	for _, n := range l {
		all = plainAdd(all, n)
	}
	return all
}

// plainMark is a mark, as the chapter tells it.
func plainMark(a, b []api.Node) api.Node { return clash(plainJoin(a), plainJoin(b)) }

// plainIsMark tells whether a node is a mark of the lists that it had to be one of.
func plainIsMark(n api.Node) bool {
	return len(n.Kids) == 2 && sameNode(n, clash(n.Kids[0].Kids, n.Kids[1].Kids))
}

func plainMarks(l []api.Node) int {
	count := 0
	for _, n := range l {
		if plainIsMark(n) {
			count++
		} else {
			count += plainMarks(n.Kids)
		}
	}
	return count
}

func plainPick(l []api.Node, side int) []api.Node {
	var all []api.Node
	for _, n := range l {
		if plainIsMark(n) {
			for _, x := range n.Kids[side].Kids {
				all = plainAdd(all, x)
			}
			continue
		}
		all = plainAdd(all, holding(n, plainPick(n.Kids, side)...))
	}
	return all
}

// plainThree merges three lists, as the chapter tells it.
func plainThree(o, a, b []api.Node) ([]api.Node, int) {
	var all []api.Node
	count := 0
	for _, x := range blend.Nodes(o, a, b) {
		ours, theirs := a[x.A.From:x.A.To], b[x.B.From:x.B.To]
		var part []api.Node
		made := 0
		switch x.Kind {
		case blend.Kept:
			part, made = plainKept(o[x.O.From], ours[0], theirs[0])
		case blend.Theirs:
			part = theirs
		case blend.Ours, blend.Both:
			part = ours
		default:
			part, made = list(plainMark(ours, theirs)), 1
		}
		count += made
		for _, n := range part {
			all = plainAdd(all, n)
		}
	}
	return all, count
}

func plainKept(o, a, b api.Node) ([]api.Node, int) {
	n := api.Node{Kind: o.Kind, Space: o.Space, Name: o.Name}
	switch {
	case slices.Equal(a.Attrs, o.Attrs):
		n.Attrs = b.Attrs
	case slices.Equal(b.Attrs, o.Attrs), slices.Equal(a.Attrs, b.Attrs):
		n.Attrs = a.Attrs
	default:
		return list(plainMark(list(a), list(b))), 1
	}
	switch {
	case a.Text == o.Text:
		n.Text = b.Text
	case b.Text == o.Text, a.Text == b.Text:
		n.Text = a.Text
	default:
		return list(plainMark(list(a), list(b))), 1
	}
	kids, made := plainThree(o.Kids, a.Kids, b.Kids)
	n.Kids = kids
	return list(n), made
}

// turned are nodes in which each mark's sides are changed about.
func turned(l []api.Node) []api.Node {
	var all []api.Node
	for _, n := range l {
		if plainIsMark(n) {
			n = clash(n.Kids[1].Kids, n.Kids[0].Kids)
		} else {
			n.Kids = turned(n.Kids)
		}
		all = append(all, n)
	}
	return all
}

// forests are all lists of just n nodes, each of which is one of heads with some of the others as kids.
func forests(n int, heads []api.Node) [][]api.Node {
	if n == 0 {
		return [][]api.Node{nil}
	}
	var all [][]api.Node
	for k := range n {
		kids, rests := forests(k, heads), forests(n-1-k, heads)
		for _, h := range heads {
			for _, kid := range kids {
				for _, rest := range rests {
					all = append(all, append(list(holding(h, kid...)), rest...))
				}
			}
		}
	}
	return all
}

// smalls are all lists of at most n nodes with these heads.
func smalls(n int, heads ...api.Node) [][]api.Node {
	var all [][]api.Node
	for k := range n + 1 {
		all = append(all, forests(k, heads)...)
	}
	return all
}

// right is a list of right nodes, by chance.
func right(r *rand.Rand, depth int) []api.Node {
	var l []api.Node
	for range r.Intn(5) {
		n := rightOne(r)
		if n.Kind == api.Element && depth > 0 {
			n.Kids = right(r, depth-1)
		}
		l = plainAdd(l, n)
	}
	return l
}

func rightOne(r *rand.Rand) api.Node {
	word := func() string { return string(rune('a' + r.Intn(4))) }
	switch r.Intn(6) {
	case 0, 1:
		return text(word())
	case 2:
		return note(word())
	case 3:
		return with(elem([]string{"p", "b"}[r.Intn(2)]), "id", word())
	}
	return elem([]string{"p", "b", "i"}[r.Intn(3)])
}

// wrong is a list of nodes, by chance, with all that may be wrong.
func wrong(r *rand.Rand, depth int) []api.Node {
	var l []api.Node
	for range r.Intn(5) {
		n := wrongOne(r)
		if depth > 0 {
			n.Kids = wrong(r, depth-1)
		}
		l = append(l, n)
	}
	return l
}

func wrongOne(r *rand.Rand) api.Node {
	words := []string{"", "a", "b", "\xff"}
	word := func() string { return words[r.Intn(len(words))] }
	n := api.Node{Kind: 1 + r.Intn(3), Text: word()}
	if r.Intn(3) > 0 {
		n = elem(word())
	}
	if r.Intn(9) == 0 {
		n.Kind, n.Space = r.Intn(5)-1, r.Intn(5)-1
	}
	if r.Intn(4) == 0 {
		n = with(n, word(), word())
	}
	if r.Intn(12) == 0 {
		n = class([]string{"clash", "ours", "theirs"}[r.Intn(3)])
	}
	return n
}

// edited is a page with some changes, by chance: at any depth nodes go, come, have other Texts or Attrs, or stand twice.
func edited(r *rand.Rand, l []api.Node, some func(r *rand.Rand) api.Node) []api.Node {
	l = slices.Clone(l)
	for i := range l {
		if r.Intn(3) > 0 {
			l[i].Kids = edited(r, l[i].Kids, some)
		}
	}
	for range r.Intn(3) {
		at, n := r.Intn(len(l)+1), some(r)
		if at == len(l) {
			l = append(l, n)
			continue
		}
		switch r.Intn(5) {
		case 0:
			l = slices.Delete(l, at, at+1)
		case 1:
			l = slices.Insert(l, at, n)
		case 2:
			l = slices.Insert(l, at, l[at])
		case 3:
			if l[at].Kind != api.Element {
				l[at].Text += "x"
			}
		case 4:
			if l[at].Kind == api.Element {
				l[at].Attrs = n.Attrs
			}
		}
	}
	return l
}

// tidy are nodes in which texts side by side are one, at any depth.
func tidy(l []api.Node) []api.Node {
	var all []api.Node
	for _, n := range l {
		all = plainAdd(all, holding(n, tidy(n.Kids)...))
	}
	return all
}

// wrongs are nodes that are not right, of each sort.
func wrongs() [][]api.Node {
	full := with(elem("p", note("")), "a", "b")
	full.Text = "t"
	odd := with(in(api.SVG, text("t")), "a", "b")
	odd.Name, odd.Kids = "p", list(text("k"), note("k"))
	return [][]api.Node{
		nil,
		{},
		{{}},
		{text(""), text("")},
		{text("a"), text("b"), elem("p", text("a"), text("a"))},
		{elem("p", text("a"), text("a"), elem("i"), text("")), text("b")},
		{kind(0, kind(-1, kind(4)), kind(-1<<63, kind(1<<63-1)))},
		{in(3, elem("p", in(-1, elem("p")))), in(-1<<63, elem("p"))},
		{elem(""), elem("P"), elem("\x00"), elem(strings.Repeat("p", api.MaxName+1))},
		{with(elem("p"), "a", "1", "a", "1"), with(elem("p"), "", "\xff")},
		{text("\xff"), note("\x00"), full, odd, kind(api.Comment, odd, full)},
		{kind(api.Text, kind(api.Text, elem("p")), text("a"))},
		{kind(api.Text, kind(api.Text, elem("b")), text("b")), kind(api.Text, text("c"))},
		{clash(list(text("a"), text("b")), nil), class("clash"), kind(api.Text, clash(nil, nil))},
		deep(api.MaxDepth+1, text("a")),
		deep(api.MaxDepth+1, text("b")),
		slices.Repeat(list(p("a")), api.MaxNodes),
	}
}
