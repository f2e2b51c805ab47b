package edit

import (
	"fmt"
	"math/rand"
	"slices"
	"strings"

	"recto/api"
	"recto/keys"
	"recto/match"
)

func text(s string) api.Node { return api.Node{Kind: api.Text, Text: s} }
func note(s string) api.Node { return api.Node{Kind: api.Comment, Text: s} }

func elem(name string, kids ...api.Node) api.Node {
	return api.Node{Kind: api.Element, Name: name, Kids: kids}
}

func in(space int, n api.Node) api.Node {
	n.Space = space
	return n
}

func attrs(l ...string) []api.Attr {
	var all []api.Attr
	for i := 0; i < len(l); i += 2 {
		all = append(all, api.Attr{Name: l[i], Value: l[i+1]})
	}
	return all
}

func with(n api.Node, l ...string) api.Node {
	n.Attrs = attrs(l...)
	return n
}

// kind is a node of that Kind, whatever it is, with kids.
func kind(k int, kids ...api.Node) api.Node { return api.Node{Kind: k, Kids: kids} }

// p is a paragraph of a text.
func p(s string) api.Node { return elem("p", text(s)) }

func list(l ...api.Node) []api.Node { return l }

func way(l ...int) []int { return l }

func script(l ...Edit) []Edit { return l }

// Edits of each What, with nothing that does not count.
func putIn(n api.Node, way ...int) Edit    { return Edit{What: PutIn, Way: way, New: n} }
func takenOut(n api.Node, way ...int) Edit { return Edit{What: TakenOut, Way: way, Old: n} }

func newText(was, is string, way ...int) Edit {
	return Edit{What: Text, Way: way, Old: api.Node{Text: was}, New: api.Node{Text: is}}
}

func newAttrs(was, is []api.Attr, way ...int) Edit {
	return Edit{What: Attrs, Way: way, Old: api.Node{Attrs: was}, New: api.Node{Attrs: is}}
}

// deep is what l is in that many elements.
func deep(n int, l ...api.Node) []api.Node {
	for range n {
		l = list(elem("b", l...))
	}
	return l
}

// many are that many nodes, side by side.
func many(n int, node api.Node) []api.Node { return slices.Repeat(list(node), n) }

// show is nodes in short: 'words', <!notes>, and names with attributes, and with kids in brackets.
func show(l []api.Node) string {
	var b strings.Builder
	for _, n := range l {
		if b.Len() > 300 {
			return b.String() + ".."
		}
		switch n.Kind {
		case api.Text:
			b.WriteString("'" + n.Text + "'")
		case api.Comment:
			b.WriteString("<!" + n.Text + ">")
		case api.Element:
			b.WriteString(n.Name + n.Text)
		default:
			fmt.Fprintf(&b, "?%d%q%q", n.Kind, n.Name, n.Text)
		}
		if n.Space != 0 {
			fmt.Fprintf(&b, "/%d", n.Space)
		}
		b.WriteString(showAttrs(n.Attrs))
		if n.Kind == api.Element || len(n.Kids) > 0 {
			b.WriteString("(" + show(n.Kids) + ")")
		}
	}
	return b.String()
}

func showAttrs(l []api.Attr) string {
	s := ""
	for _, a := range l {
		s += "[" + a.Name + "=" + a.Value + "]"
	}
	return s
}

// tell is a script in short, just what counts: + what was put in, - what was taken out, @ Attrs, ~ Texts; each behind its way.
func tell(s []Edit) string {
	var all []string
	for _, x := range s {
		w := strings.Trim(strings.ReplaceAll(fmt.Sprint(x.Way), " ", "."), "[]")
		switch x.What {
		case PutIn:
			w += "+" + show(list(x.New))
		case TakenOut:
			w += "-" + show(list(x.Old))
		case Attrs:
			w += "@" + showAttrs(x.Old.Attrs) + ">" + showAttrs(x.New.Attrs)
		case Text:
			w += "~" + x.Old.Text + ">" + x.New.Text
		default:
			w += fmt.Sprint("?", x.What)
		}
		all = append(all, w)
	}
	return strings.Join(all, " ")
}

// wholeNodes tells all that nodes have, so that a change shows; spare room too.
func wholeNodes(l []api.Node) string {
	var b strings.Builder
	for i, n := range l[:cap(l)] {
		fmt.Fprintf(&b, "(%v %d %d %q %d %q %q", i < len(l), n.Kind, n.Space, n.Name, len(n.Attrs), n.Attrs[:cap(n.Attrs)], n.Text)
		b.WriteString(wholeNodes(n.Kids) + ")")
	}
	return b.String()
}

// wholeScript tells all that a script has, spare room too.
func wholeScript(s []Edit) string {
	var b strings.Builder
	for i, x := range s[:cap(s)] {
		fmt.Fprintf(&b, "{%v %d %d %v", i < len(s), x.What, len(x.Way), x.Way[:cap(x.Way)])
		b.WriteString(wholeNodes(list(x.Old)) + wholeNodes(list(x.New)) + "}")
	}
	return b.String()
}

// junk is written into what should be nobody's.
var junk = api.Node{Kind: 99, Space: 9, Name: "junk", Text: "junk"}

// widen writes junk into the spare room that lists have: where they share memory, it shows.
func widen(l []api.Node) {
	for i := range l[len(l):cap(l)] {
		l[len(l):cap(l)][i] = junk
	}
	for _, n := range l {
		for i := range n.Attrs[len(n.Attrs):cap(n.Attrs)] {
			n.Attrs[len(n.Attrs):cap(n.Attrs)][i] = api.Attr{Name: "junk", Value: "junk"}
		}
		widen(n.Kids)
	}
}

func widenScript(s []Edit) {
	for i := range s[len(s):cap(s)] {
		s[len(s):cap(s)][i] = Edit{What: 99}
	}
	for _, x := range s {
		for i := range x.Way[len(x.Way):cap(x.Way)] {
			x.Way[len(x.Way):cap(x.Way)][i] = -99
		}
		widen(list(x.Old))
		widen(list(x.New))
	}
}

// spoil writes junk over all that lists have, spare room too.
func spoil(l []api.Node) {
	widen(l)
	for i := range l {
		for j := range l[i].Attrs {
			l[i].Attrs[j] = api.Attr{Name: "junk", Value: "junk"}
		}
		spoil(l[i].Kids)
		l[i] = junk
	}
}

// spoilParts spoils all lists of one edit's one node or way, and asks after each one.
func spoilParts(s []Edit, ask func()) {
	widenScript(s)
	ask()
	for i, x := range s {
		for j := range x.Way {
			x.Way[j] = -99
		}
		spoil(list(x.Old))
		s[i].Way, s[i].Old = nil, api.Node{}
		ask()
		spoil(list(x.New))
		s[i] = Edit{}
		ask()
	}
}

// roomy are the same nodes in other memory, in lists that have junk as spare room.
func roomy(l []api.Node) []api.Node {
	var r []api.Node
	for _, n := range l {
		n.Kids = roomy(n.Kids)
		n.Attrs = append(slices.Clone(n.Attrs), api.Attr{Name: "junk"})[:len(n.Attrs)]
		r = append(r, n)
	}
	return append(r, junk)[:len(l)]
}

// roomyScript is the same script in other memory, in lists that have junk as spare room.
func roomyScript(s []Edit) []Edit {
	var r []Edit
	for _, x := range s {
		x.Way = append(slices.Clone(x.Way), -7)[:len(x.Way)]
		x.Old, x.New = roomy(list(x.Old))[0], roomy(list(x.New))[0]
		r = append(r, x)
	}
	return append(r, Edit{What: 77})[:len(s)]
}

// copies are the same nodes in new memory, without spare room.
func copies(l []api.Node) []api.Node {
	c := make([]api.Node, len(l))
	for i, n := range l {
		n.Kids = copies(n.Kids)
		n.Attrs = append([]api.Attr{}, n.Attrs...)
		c[i] = n
	}
	return c
}

func same(a, b []api.Node) bool { return slices.EqualFunc(a, b, plainSame) }

func plainSame(n, m api.Node) bool {
	return n.Kind == m.Kind && n.Space == m.Space && n.Name == m.Name && n.Text == m.Text && slices.Equal(n.Attrs, m.Attrs) && same(n.Kids, m.Kids)
}

// exact tells whether two scripts are the same in all that they have, be it of meaning or not.
func exact(a, b []Edit) bool {
	return slices.EqualFunc(a, b, func(x, y Edit) bool {
		return x.What == y.What && slices.Equal(x.Way, y.Way) && plainSame(x.Old, y.Old) && plainSame(x.New, y.New)
	})
}

func count(l []api.Node) int {
	c := len(l)
	for _, n := range l {
		c += count(n.Kids)
	}
	return c
}

// plainScript is the script from a to b, as the chapter tells it; ahead is the way to the node whose kids they are.
func plainScript(a, b []api.Node, ahead ...int) []Edit {
	var s []Edit
	place, i, j := 0, 0, 0
	here := func() []int { return append(slices.Clone(ahead), place) }
	end := match.Pair{A: len(a), B: len(b), Whole: true}
	for _, p := range append(match.Lists(a, b), end) {
		for ; i < p.A; i++ {
			s = append(s, takenOut(a[i], here()...))
		}
		for ; j < p.B; j++ {
			s = append(s, putIn(b[j], here()...))
			place++
		}
		if !p.Whole {
			n, m := a[p.A], b[p.B]
			if !slices.Equal(n.Attrs, m.Attrs) {
				s = append(s, newAttrs(n.Attrs, m.Attrs, here()...))
			}
			if n.Text != m.Text {
				s = append(s, newText(n.Text, m.Text, here()...))
			}
			s = append(s, plainScript(n.Kids, m.Kids, here()...)...)
		}
		place++
		i, j = p.A+1, p.B+1
	}
	return s
}

// plainApply applies a script as the chapter tells it.
func plainApply(l []api.Node, s []Edit) ([]api.Node, api.Errno) {
	page := copies(l)
	for _, x := range s {
		if x.What < 1 || x.What > 4 {
			return nil, api.ErrForm
		}
		var e api.Errno
		if page, e = plainEdit(page, x, x.Way); e != api.OK {
			return nil, e
		}
	}
	return page, api.OK
}

// plainEdit does an edit at what is left of its way; in l itself, and with nothing of x's own memory in it.
func plainEdit(l []api.Node, x Edit, way []int) ([]api.Node, api.Errno) {
	if len(way) == 0 || way[0] < 0 || way[0] > len(l) {
		return nil, api.ErrNone
	}
	at := way[0]
	if len(way) == 1 && x.What == PutIn {
		return slices.Concat(l[:at], copies(list(x.New)), l[at:]), api.OK
	}
	if at == len(l) {
		return nil, api.ErrNone
	}
	if len(way) > 1 {
		kids, e := plainEdit(l[at].Kids, x, way[1:])
		l[at].Kids = kids
		return l, e
	}
	n := &l[at]
	switch {
	case x.What == TakenOut && plainSame(*n, x.Old):
		return slices.Concat(l[:at], l[at+1:]), api.OK
	case x.What == Attrs && slices.Equal(n.Attrs, x.Old.Attrs):
		n.Attrs = slices.Clone(x.New.Attrs)
		return l, api.OK
	case x.What == Text && n.Text == x.Old.Text:
		n.Text = x.New.Text
		return l, api.OK
	}
	return nil, api.ErrState
}

// forests are all lists of just n nodes, each of which is one of heads with some of the others as kids.
func forests(n int, heads []api.Node) [][]api.Node {
	if n == 0 {
		return [][]api.Node{nil}
	}
	var all [][]api.Node
	for k := range n {
		kids, rests := forests(k, heads), forests(n-1-k, heads)
		for _, h := range heads {
			for _, kid := range kids {
				for _, rest := range rests {
					h.Kids = kid
					all = append(all, append(list(h), rest...))
				}
			}
		}
	}
	return all
}

// smalls are all lists of at most n nodes with these heads.
func smalls(n int, heads ...api.Node) [][]api.Node {
	var all [][]api.Node
	for k := range n + 1 {
		all = append(all, forests(k, heads)...)
	}
	return all
}

// some is a list of nodes, by chance, with all that may be wrong.
func some(r *rand.Rand, depth int) []api.Node {
	var l []api.Node
	for range r.Intn(6) {
		n := one(r)
		if depth > 0 {
			n.Kids = some(r, depth-1)
		}
		l = append(l, n)
	}
	return l
}

// one is a node without kids, by chance.
func one(r *rand.Rand) api.Node {
	words := []string{"", "a", "b", "\xff"}
	word := func() string { return words[r.Intn(len(words))] }
	n := api.Node{Kind: 1 + r.Intn(3), Text: word()}
	if r.Intn(3) > 0 {
		n = elem(word())
	}
	if r.Intn(9) == 0 {
		n.Kind, n.Space = r.Intn(5)-1, r.Intn(5)-1
	}
	for range r.Intn(3) * r.Intn(2) {
		n.Attrs = append(n.Attrs, api.Attr{Name: word(), Value: word()})
	}
	return n
}

// edited is a page with some changes, by chance.
func edited(r *rand.Rand, l []api.Node) []api.Node {
	for range r.Intn(5) {
		c := count(l)
		if c == 0 {
			return l
		}
		way, _ := keys.Way(l, r.Intn(c))
		n, _ := keys.At(l, way)
		switch r.Intn(5) {
		case 0:
			l, _ = keys.Cut(l, way)
		case 1:
			l, _ = keys.Insert(l, way, one(r))
		case 2:
			n.Text = one(r).Text
			l, _ = keys.Put(l, way, n)
		case 3:
			n.Attrs = one(r).Attrs
			l, _ = keys.Put(l, way, n)
		case 4:
			l, _ = keys.Insert(l, way, n)
		}
	}
	return l
}

// someEdit is an edit, by chance, that mostly fits a page, with junk in what does not count.
func someEdit(r *rand.Rand, l []api.Node) Edit {
	x := Edit{What: 1 + r.Intn(4), Old: one(r), New: one(r)}
	if c := count(l); c > 0 {
		x.Way, _ = keys.Way(l, r.Intn(c))
		n, _ := keys.At(l, x.Way)
		switch x.What {
		case PutIn:
			x.Way[len(x.Way)-1] += r.Intn(2)
			x.New.Kids = some(r, 1)
		case TakenOut:
			x.Old = n
		case Attrs:
			x.Old.Attrs = n.Attrs
		case Text:
			x.Old.Text = n.Text
		}
	} else {
		x.What, x.Way = PutIn, way(0)
	}
	switch r.Intn(40) {
	case 0:
		x.What = r.Intn(8) - 2
	case 1:
		x.Way = append(x.Way, r.Intn(4)-1)
	case 2:
		x.Way = x.Way[:len(x.Way)-1]
	case 3:
		x.Way[r.Intn(len(x.Way))] += r.Intn(3) - 1
	case 4:
		x.Old = one(r)
	}
	return x
}

// wrongs are nodes that are not right, of each sort.
func wrongs() [][]api.Node {
	full := with(elem("p", note("")), "a", "b")
	full.Text = "t"
	odd := with(in(api.SVG, text("t")), "a", "b")
	odd.Name, odd.Kids = "p", list(text("k"), note("k"))
	return [][]api.Node{
		{{}},
		{text(""), text("")},
		{text("a"), text("b"), elem("p", text("a"), text("a"))},
		{kind(0, kind(-1, kind(4)), kind(-1<<63, kind(1<<63-1)))},
		{in(3, elem("p", in(-1, elem("p"))))},
		{elem(""), elem("P"), elem("\x00"), elem(strings.Repeat("p", api.MaxName+1))},
		{with(elem("p", with(elem("p"), "a", "1", "a", "1")), "", "\xff", "\r", "")},
		{text("\xff"), note("\x00"), full, odd, kind(api.Comment, odd, full)},
		{kind(api.Text, kind(api.Text, elem("p")), text("a"))},
		{kind(api.Text, kind(api.Text, elem("b")), text("b"))},
	}
}

// pages are pages of all sorts: right ones, at the limits and beyond them, and wrong ones.
func pages() [][]api.Node {
	return append([][]api.Node{
		nil,
		{},
		{text("a")},
		{note("")},
		{elem("p")},
		{p("1"), p("2"), text("x")},
		{p("0"), elem("b"), p("2"), elem("i"), text("y")},
		{elem("div", p("1"), elem("ul", elem("li", p("2")), elem("li", text("3")))), note("n"), p("4")},
		{elem("div", elem("ul", elem("li", text("3")), elem("li", p("2"), p("2")))), p("4"), note("m")},
		{in(api.SVG, with(elem("svg", in(api.SVG, elem("g"))), "a", "b")), in(api.Math, elem("math")), elem("math")},
		deep(api.MaxDepth),
		deep(api.MaxDepth, text("a"), note("b"), text("c")),
		deep(api.MaxDepth, text("b"), elem("i"), text("c")),
		deep(api.MaxDepth+1, text("a")),
		many(api.MaxNodes, elem("b")),
		many(api.MaxNodes+1, elem("b")),
		{elem("p", many(api.MaxNodes-1, note("a"))...)},
		many(api.MaxNodes/2, p("a")),
		slices.Concat(many(50, p("a")), many(50, p("b")), many(50, p("a"))),
	}, wrongs()...)
}
