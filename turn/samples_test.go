package turn

import (
	"fmt"
	"math/rand"
	"slices"
	"strings"

	"recto/api"
	"recto/edit"
)

func text(s string) api.Node { return api.Node{Kind: api.Text, Text: s} }
func note(s string) api.Node { return api.Node{Kind: api.Comment, Text: s} }

func elem(name string, kids ...api.Node) api.Node {
	return api.Node{Kind: api.Element, Name: name, Kids: kids}
}

func attrs(l ...string) []api.Attr {
	var all []api.Attr
	for i := 0; i < len(l); i += 2 {
		all = append(all, api.Attr{Name: l[i], Value: l[i+1]})
	}
	return all
}

func with(n api.Node, l ...string) api.Node {
	n.Attrs = attrs(l...)
	return n
}

// kind is a node of that Kind, whatever it is, with kids.
func kind(k int, kids ...api.Node) api.Node { return api.Node{Kind: k, Kids: kids} }

// p is a paragraph of a text.
func p(s string) api.Node { return elem("p", text(s)) }

func list(l ...api.Node) []api.Node { return l }

func way(l ...int) []int { return l }

func script(l ...edit.Edit) []edit.Edit { return l }

// Edits of each What, with nothing that does not count.
func putIn(n api.Node, way ...int) edit.Edit {
	return edit.Edit{What: edit.PutIn, Way: way, New: n}
}

func takenOut(n api.Node, way ...int) edit.Edit {
	return edit.Edit{What: edit.TakenOut, Way: way, Old: n}
}

func newText(was, is string, way ...int) edit.Edit {
	return edit.Edit{What: edit.Text, Way: way, Old: api.Node{Text: was}, New: api.Node{Text: is}}
}

func newAttrs(was, is []api.Attr, way ...int) edit.Edit {
	return edit.Edit{What: edit.Attrs, Way: way, Old: api.Node{Attrs: was}, New: api.Node{Attrs: is}}
}

// odd is an edit of a What that is none.
func odd(what int, was, is api.Node, way ...int) edit.Edit {
	return edit.Edit{What: what, Way: way, Old: was, New: is}
}

// texts are Texts of one way, from letter to letter: "abc" is from a to b, and from b to c; so are several words of them, one behind the other.
func texts(words string, way ...int) []edit.Edit {
	var s []edit.Edit
	for _, w := range strings.Fields(words) {
		for i := range len(w) - 1 {
			s = append(s, newText(w[i:i+1], w[i+1:i+2], way...))
		}
	}
	return s
}

// deep is what l is in that many elements.
func deep(n int, l ...api.Node) []api.Node {
	for range n {
		l = list(elem("b", l...))
	}
	return l
}

// show is nodes in short: 'words', <!notes>, and names with attributes, and with kids in brackets.
func show(l []api.Node) string {
	var b strings.Builder
	for _, n := range l {
		if b.Len() > 300 {
			return b.String() + ".."
		}
		switch n.Kind {
		case api.Text:
			b.WriteString("'" + n.Text + "'")
		case api.Comment:
			b.WriteString("<!" + n.Text + ">")
		case api.Element:
			b.WriteString(n.Name + n.Text)
		default:
			fmt.Fprintf(&b, "?%d%q%q", n.Kind, n.Name, n.Text)
		}
		if n.Space != 0 {
			fmt.Fprintf(&b, "/%d", n.Space)
		}
		b.WriteString(showAttrs(n.Attrs))
		if n.Kind == api.Element || len(n.Kids) > 0 {
			b.WriteString("(" + show(n.Kids) + ")")
		}
	}
	return b.String()
}

func showAttrs(l []api.Attr) string {
	s := ""
	for _, a := range l {
		s += "[" + a.Name + "=" + a.Value + "]"
	}
	return s
}

// tell is a script in short, just what counts: + what was put in, - what was taken out, @ Attrs, ~ Texts; each behind its way.
func tell(s []edit.Edit) string {
	var all []string
	for _, x := range s {
		w := strings.Trim(strings.ReplaceAll(fmt.Sprint(x.Way), " ", "."), "[]")
		switch x.What {
		case edit.PutIn:
			w += "+" + show(list(x.New))
		case edit.TakenOut:
			w += "-" + show(list(x.Old))
		case edit.Attrs:
			w += "@" + showAttrs(x.Old.Attrs) + ">" + showAttrs(x.New.Attrs)
		case edit.Text:
			w += "~" + x.Old.Text + ">" + x.New.Text
		default:
			w += fmt.Sprint("?", x.What, show(list(x.Old)), ">", show(list(x.New)))
		}
		all = append(all, w)
	}
	return strings.Join(all, " ")
}

// wholeNodes tells all that nodes have, so that a change shows; spare room too.
func wholeNodes(l []api.Node) string {
	var b strings.Builder
	for i, n := range l[:cap(l)] {
		fmt.Fprintf(&b, "(%v %d %d %q %d %q %q", i < len(l), n.Kind, n.Space, n.Name, len(n.Attrs), n.Attrs[:cap(n.Attrs)], n.Text)
		b.WriteString(wholeNodes(n.Kids) + ")")
	}
	return b.String()
}

// wholeScript tells all that a script has, spare room too.
func wholeScript(s []edit.Edit) string {
	var b strings.Builder
	for i, x := range s[:cap(s)] {
		fmt.Fprintf(&b, "{%v %d %d %v", i < len(s), x.What, len(x.Way), x.Way[:cap(x.Way)])
		b.WriteString(wholeNodes(list(x.Old)) + wholeNodes(list(x.New)) + "}")
	}
	return b.String()
}

// junk is written into what should be nobody's.
var junk = api.Node{Kind: 99, Space: 9, Name: "junk", Text: "junk"}

// spoil writes junk over all that lists have, spare room too.
func spoil(l []api.Node) {
	for i := range l[:cap(l)] {
		n := &l[:cap(l)][i]
		for j := range n.Attrs[:cap(n.Attrs)] {
			n.Attrs[:cap(n.Attrs)][j] = api.Attr{Name: "junk", Value: "junk"}
		}
		spoil(n.Kids)
		*n = junk
	}
}

// spoilEdit writes junk over all that an edit's lists have, spare room too.
func spoilEdit(x edit.Edit) {
	for i := range x.Way[:cap(x.Way)] {
		x.Way[:cap(x.Way)][i] = -99
	}
	spoil(list(x.Old))
	spoil(list(x.New))
}

// roomy are the same nodes in other memory, in lists that have junk as spare room.
func roomy(l []api.Node) []api.Node {
	var r []api.Node
	for _, n := range l {
		n.Kids = roomy(n.Kids)
		n.Attrs = append(slices.Clone(n.Attrs), api.Attr{Name: "junk"})[:len(n.Attrs)]
		r = append(r, n)
	}
	return append(r, junk)[:len(l)]
}

// roomyScript is the same script in other memory, in lists that have junk as spare room.
func roomyScript(s []edit.Edit) []edit.Edit {
	var r []edit.Edit
	for _, x := range s {
		x.Way = append(slices.Clone(x.Way), -7)[:len(x.Way)]
		x.Old, x.New = roomy(list(x.Old))[0], roomy(list(x.New))[0]
		r = append(r, x)
	}
	return append(r, edit.Edit{What: 77})[:len(s)]
}

func same(a, b []api.Node) bool { return slices.EqualFunc(a, b, sameNode) }

func sameNode(n, m api.Node) bool {
	return n.Kind == m.Kind && n.Space == m.Space && n.Name == m.Name && n.Text == m.Text && slices.Equal(n.Attrs, m.Attrs) && same(n.Kids, m.Kids)
}

// exact tells whether two scripts are the same in all that they have, be it of meaning or not.
func exact(a, b []edit.Edit) bool { return slices.EqualFunc(a, b, exactEdit) }

func exactEdit(x, y edit.Edit) bool {
	return x.What == y.What && slices.Equal(x.Way, y.Way) && sameNode(x.Old, y.Old) && sameNode(x.New, y.New)
}

// plainTurned is an edit turned, as the chapter tells it.
func plainTurned(x edit.Edit) edit.Edit {
	what := map[int]int{edit.PutIn: edit.TakenOut, edit.TakenOut: edit.PutIn}[x.What]
	if what == 0 {
		what = x.What
	}
	return edit.Edit{What: what, Way: x.Way, Old: x.New, New: x.Old}
}

func plainAbout(s []edit.Edit) []edit.Edit {
	var all []edit.Edit
	for i := len(s) - 1; i >= 0; i-- {
		all = append(all, plainTurned(s[i]))
	}
	return all
}

// bare is an edit with nothing that does not count.
func bare(x edit.Edit) edit.Edit {
	switch x.What {
	case edit.PutIn:
		return putIn(x.New, x.Way...)
	case edit.TakenOut:
		return takenOut(x.Old, x.Way...)
	case edit.Attrs:
		return newAttrs(x.Old.Attrs, x.New.Attrs, x.Way...)
	case edit.Text:
		return newText(x.Old.Text, x.New.Text, x.Way...)
	}
	return x
}

func plainCancel(x, y edit.Edit) bool { return exactEdit(bare(plainTurned(x)), bare(y)) }

func plainMelt(x, y edit.Edit) bool {
	if x.What != y.What || !slices.Equal(x.Way, y.Way) {
		return false
	}
	return x.What == edit.Text && x.New.Text == y.Old.Text || x.What == edit.Attrs && slices.Equal(x.New.Attrs, y.Old.Attrs)
}

// firstTwo is the place of the first edit of which that is so with the one behind it, or -1.
func firstTwo(s []edit.Edit, so func(x, y edit.Edit) bool) int {
	for i := range len(s) - 1 {
		if so(s[i], s[i+1]) {
			return i
		}
	}
	return -1
}

// plainShort is a script, shortened as the chapter tells it: step by step, each of which begins anew.
func plainShort(s []edit.Edit) []edit.Edit {
	for {
		if i := firstTwo(s, plainCancel); i >= 0 {
			s = slices.Concat(s[:i], s[i+2:])
		} else if i := firstTwo(s, plainMelt); i >= 0 {
			one := edit.Edit{What: s[i].What, Way: s[i].Way, Old: s[i].Old, New: s[i+1].New}
			s = slices.Concat(s[:i], script(one), s[i+2:])
		} else {
			return s
		}
	}
}

// plainTouched counts the Texts and Attrs that have none of their What and way ahead of them.
func plainTouched(s []edit.Edit) int {
	n := 0
	for i, x := range s {
		again := slices.ContainsFunc(s[:i], func(y edit.Edit) bool { return x.What == y.What && slices.Equal(x.Way, y.Way) })
		if (x.What == edit.Text || x.What == edit.Attrs) && !again {
			n++
		}
	}
	return n
}

// some is a list of nodes, by chance, with all that may be wrong.
func some(r *rand.Rand, depth int) []api.Node {
	var l []api.Node
	for range r.Intn(5) {
		n := one(r)
		if depth > 0 {
			n.Kids = some(r, depth-1)
		}
		l = append(l, n)
	}
	return l
}

// one is a node without kids, by chance.
func one(r *rand.Rand) api.Node {
	words := []string{"", "a", "b", "\xff"}
	word := func() string { return words[r.Intn(len(words))] }
	n := api.Node{Kind: 1 + r.Intn(3), Text: word()}
	if r.Intn(3) > 0 {
		n = elem(word())
	}
	if r.Intn(9) == 0 {
		n.Kind, n.Space = r.Intn(5)-1, r.Intn(5)-1
	}
	for range r.Intn(3) * r.Intn(2) {
		n.Attrs = append(n.Attrs, api.Attr{Name: word(), Value: word()})
	}
	return n
}

// someFit is a script, by chance, of edits that fit a page one behind the other, and what it makes. Few places are changed often, so that much cancels and melts.
func someFit(r *rand.Rand, l []api.Node) ([]edit.Edit, []api.Node) {
	var s []edit.Edit
	for range r.Intn(14) {
		x := fitting(r, l)
		if r.Intn(3) == 0 && len(s) > 0 {
			x = plainTurned(s[len(s)-1])
		}
		if next, e := edit.Apply(l, script(x)); e == api.OK {
			s, l = append(s, x), next
		}
	}
	return s, l
}

// fitting is an edit, by chance, at one of the first nodes, or at one's kid, that fits.
func fitting(r *rand.Rand, l []api.Node) edit.Edit {
	if len(l) == 0 {
		return putIn(one(r), 0)
	}
	at := r.Intn(min(len(l), 2))
	n, w := l[at], way(at)
	if len(n.Kids) > 0 && r.Intn(2) == 0 {
		n, w = n.Kids[0], way(at, 0)
	}
	switch 1 + r.Intn(6) {
	case edit.PutIn:
		w[len(w)-1] += r.Intn(2)
		return putIn(one(r), w...)
	case edit.TakenOut:
		return takenOut(n, w...)
	case edit.Attrs:
		return newAttrs(n.Attrs, one(r).Attrs, w...)
	}
	return newText(n.Text, one(r).Text, w...)
}

// someScript is a script, by chance, that fits nothing, with junk in what does not count.
func someScript(r *rand.Rand) []edit.Edit {
	var s []edit.Edit
	for range r.Intn(12) {
		x := edit.Edit{What: r.Intn(7) - 1, Old: one(r), New: one(r)}
		for range r.Intn(3) {
			x.Way = append(x.Way, r.Intn(3)-1)
		}
		if len(s) > 0 && r.Intn(2) == 0 {
			last := s[len(s)-1]
			x.What, x.Way, x.Old = last.What, slices.Clone(last.Way), last.New
		}
		if len(s) > 0 && r.Intn(4) == 0 {
			x = plainTurned(s[len(s)-1-r.Intn(min(len(s), 2))])
		}
		if r.Intn(3) == 0 {
			x.Old.Kids, x.New.Kids = some(r, 0), some(r, 1)
		}
		s = append(s, x)
	}
	return s
}

// wrongs are nodes that are not right, of each sort.
func wrongs() [][]api.Node {
	full := with(elem("p", note("")), "a", "b")
	full.Text = "t"
	space := elem("p")
	space.Space = -1
	return [][]api.Node{
		{{}},
		{text(""), text("")},
		{text("a"), text("b"), elem("p", text("a"), text("a"))},
		{kind(0, kind(-1, kind(4)), kind(-1<<63, kind(1<<63-1)))},
		{space, elem("p", space)},
		{elem(""), elem("P"), elem("\x00"), elem(strings.Repeat("p", api.MaxName+1))},
		{with(elem("p", with(elem("p"), "a", "1", "a", "1")), "", "\xff", "\r", "")},
		{text("\xff"), note("\x00"), full, kind(api.Comment, full, text("k"))},
		{kind(api.Text, kind(api.Text, elem("p")), text("a"))},
	}
}

// pages are pages of all sorts: right ones, at the limits and beyond them, and wrong ones.
func pages() [][]api.Node {
	return append([][]api.Node{
		nil,
		{},
		{text("a")},
		{elem("p")},
		{p("1"), p("2"), text("x")},
		{with(p("0"), "k", "v"), elem("b"), p("2"), elem("i"), text("y")},
		{elem("div", p("1"), elem("ul", elem("li", p("2")), elem("li", text("3")))), note("n"), p("4")},
		{with(elem("div", elem("ul", elem("li", text("3")), elem("li", p("2"), p("2")))), "k", "v"), p("4"), note("m")},
		deep(api.MaxDepth, text("a"), note("b"), text("c")),
		deep(api.MaxDepth, text("b"), elem("i"), text("c")),
		deep(api.MaxDepth+1, text("a")),
		slices.Repeat(list(p("a")), api.MaxNodes/2),
		slices.Repeat(list(elem("b")), api.MaxNodes+1),
	}, wrongs()...)
}
