package blend

import (
	"fmt"
	"math/rand"
	"slices"
	"strings"

	"recto/api"
	"recto/match"
)

func text(s string) api.Node { return api.Node{Kind: api.Text, Text: s} }
func note(s string) api.Node { return api.Node{Kind: api.Comment, Text: s} }

func elem(name string, kids ...api.Node) api.Node {
	return api.Node{Kind: api.Element, Name: name, Kids: kids}
}

func in(space int, n api.Node) api.Node {
	n.Space = space
	return n
}

func with(n api.Node, name, value string) api.Node {
	n.Attrs = append(slices.Clone(n.Attrs), api.Attr{Name: name, Value: value})
	return n
}

// kind is a node of that Kind, whatever it is, with kids.
func kind(k int, kids ...api.Node) api.Node { return api.Node{Kind: k, Kids: kids} }

// p is a paragraph of a text.
func p(s string) api.Node { return elem("p", text(s)) }

func list(l ...api.Node) []api.Node { return l }

// letters are the texts of one letter each of which s is made.
func letters(s string) []string { return strings.Split(s, "")[:len(s)] }

// elems are elements of these names, without kids.
func elems(names []string) []api.Node {
	var l []api.Node
	for _, s := range names {
		l = append(l, elem(s))
	}
	return l
}

// deep is what l is in that many elements.
func deep(n int, l ...api.Node) []api.Node {
	for range n {
		l = list(elem("b", l...))
	}
	return l
}

// tell is parts in short: the letter that each one's Kind begins with (K, T, O, B, C), and its ranges.
func tell(l []Part) string {
	var all []string
	for _, x := range l {
		name := fmt.Sprint("?", x.Kind)
		if x.Kind >= Kept && x.Kind <= Clash {
			name = "KTOBC"[x.Kind-1 : x.Kind]
		}
		all = append(all, fmt.Sprintf("%s%d-%d:%d-%d:%d-%d", name, x.O.From, x.O.To, x.A.From, x.A.To, x.B.From, x.B.To))
	}
	return strings.Join(all, " ")
}

// show tells nodes in not too many words.
func show(l []api.Node) string {
	s := ""
	for _, n := range l {
		if len(s) > 200 {
			return s + ".."
		}
		s += fmt.Sprintf("%d/%d %s%q%q(%s)", n.Kind, n.Space, n.Name, n.Text, n.Attrs, show(n.Kids))
	}
	return s
}

// whole tells all that nodes have, so that a change shows; spare room too.
func whole(l []api.Node) string {
	var b strings.Builder
	for i, n := range l[:cap(l)] {
		fmt.Fprintf(&b, "(%v %d %d %q %d %q %q", i < len(l), n.Kind, n.Space, n.Name, len(n.Attrs), n.Attrs[:cap(n.Attrs)], n.Text)
		b.WriteString(whole(n.Kids) + ")")
	}
	return b.String()
}

// roomy are the same nodes in other memory, in lists that have something as spare room.
func roomy(l []api.Node) []api.Node {
	var r []api.Node
	for _, n := range l {
		n.Kids = roomy(n.Kids)
		n.Attrs = append(slices.Clone(n.Attrs), api.Attr{Name: "junk"})[:len(n.Attrs)]
		r = append(r, n)
	}
	return append(r, kind(99))[:len(l)]
}

// roomyTexts are the same texts in other memory, in a list that has something as spare room.
func roomyTexts(l []string) []string {
	return append(slices.Clone(l), "junk")[:len(l)]
}

func sameNodes(a, b []api.Node) bool {
	return slices.EqualFunc(a, b, func(n, m api.Node) bool {
		return n.Kind == m.Kind && n.Space == m.Space && n.Name == m.Name && n.Text == m.Text && slices.Equal(n.Attrs, m.Attrs) && sameNodes(n.Kids, m.Kids)
	})
}

// lines is three lists of some sort, how they are lined up, and how stretches are held against each other.
type lines[T any] struct {
	o, a, b []T
	pairs   func(a, b []T) []match.Pair
	same    func(a, b []T) bool
}

// plain are the parts, as the chapter tells them: place by place of what there was, and one more behind them all, which ends the last stretch.
func (l lines[T]) plain() []Part {
	ours, theirs := map[int]int{len(l.o): len(l.a)}, map[int]int{len(l.o): len(l.b)}
	for _, x := range l.pairs(l.o, l.a) {
		ours[x.A] = x.B
	}
	for _, x := range l.pairs(l.o, l.b) {
		theirs[x.A] = x.B
	}
	var all []Part
	i, j, k := 0, 0, 0
	for at := range len(l.o) + 1 {
		a, isOurs := ours[at]
		b, isTheirs := theirs[at]
		if !isOurs || !isTheirs {
			continue
		}
		stretch := Part{0, Range{i, at}, Range{j, a}, Range{k, b}}
		stretch.Kind = l.plainKind(l.o[i:at], l.a[j:a], l.b[k:b])
		if stretch.Kind != 0 {
			all = append(all, stretch)
		}
		if at < len(l.o) {
			all = append(all, Part{Kept, Range{at, at + 1}, Range{a, a + 1}, Range{b, b + 1}})
		}
		i, j, k = at+1, a+1, b+1
	}
	return all
}

// plainKind is what a stretch is, as the chapter tells it; 0 is nothing.
func (l lines[T]) plainKind(o, a, b []T) int {
	if len(o)+len(a)+len(b) == 0 {
		return 0
	}
	if l.same(a, o) {
		return Theirs
	}
	if l.same(b, o) {
		return Ours
	}
	if l.same(a, b) {
		return Both
	}
	return Clash
}

func plainTexts(o, a, b []string) []Part {
	return lines[string]{o, a, b, match.Line, slices.Equal[[]string]}.plain()
}

func plainNodes(o, a, b []api.Node) []Part {
	return lines[api.Node]{o, a, b, match.Lists, sameNodes}.plain()
}

// plainJoin are lists of texts as one, as the chapter tells it.
func plainJoin(o, a, b []string) ([]string, int) {
	var all []string
	clashes := 0
	for _, x := range plainTexts(o, a, b) {
		was, ours, theirs := o[x.O.From:x.O.To], a[x.A.From:x.A.To], b[x.B.From:x.B.To]
		if x.Kind == Clash {
			clashes++
		}
		all = append(all, map[int][]string{Kept: was, Theirs: theirs, Ours: ours, Both: ours, Clash: slices.Concat(ours, theirs)}[x.Kind]...)
	}
	return all, clashes
}

// turned are parts as they are if ours and theirs are changed about.
func turned(l []Part) []Part {
	var all []Part
	for _, x := range l {
		k := x.Kind
		if k == Theirs || k == Ours {
			k = Theirs + Ours - k
		}
		all = append(all, Part{k, x.O, x.B, x.A})
	}
	return all
}

// lists are all lists of at most n of some texts.
func lists(n int, of ...string) [][]string {
	all := [][]string{nil}
	last := all
	for range n {
		var next [][]string
		for _, l := range last {
			for _, s := range of {
				next = append(next, append(slices.Clone(l), s))
			}
		}
		all, last = append(all, next...), next
	}
	return all
}

// changed is a list with some changes, by chance: items out, new ones in, or others in their place.
func changed[T any](r *rand.Rand, l []T, some func() T) []T {
	l = slices.Clone(l)
	for range r.Intn(5) {
		at := r.Intn(len(l) + 1)
		switch what := r.Intn(3); {
		case what == 0 || at == len(l):
			l = slices.Insert(l, at, some())
		case what == 1:
			l = slices.Delete(l, at, at+1)
		default:
			l[at] = some()
		}
	}
	return l
}

// chance is a node, by chance, with all that may be wrong.
func chance(r *rand.Rand, depth int) api.Node {
	words := []string{"", "a", "b", "\xff"}
	word := func() string { return words[r.Intn(len(words))] }
	n := api.Node{Kind: 1 + r.Intn(3), Text: word()}
	if r.Intn(3) > 0 {
		n = elem(word())
	}
	if r.Intn(9) == 0 {
		n.Kind, n.Space = r.Intn(5)-1, r.Intn(5)-1
	}
	for range r.Intn(3) * r.Intn(2) {
		n = with(n, word(), word())
	}
	for range r.Intn(3) * depth {
		n.Kids = append(n.Kids, chance(r, depth-1))
	}
	return n
}

// few are nodes of which some are the same, some alike, and some neither; right and wrong ones.
func few() []api.Node {
	return []api.Node{elem("p"), p("1"), text("a"), text("b"), note("a"), kind(7, text("a"))}
}

// wrongs are nodes that are not right, of each sort.
func wrongs() [][]api.Node {
	full := with(elem("p", note("")), "a", "b")
	full.Text = "t"
	odd := with(in(api.SVG, text("t")), "a", "b")
	odd.Name, odd.Kids = "p", list(text("k"), note("k"))
	return [][]api.Node{
		nil,
		{},
		{{}},
		{text(""), text("")},
		{text("a"), text("b"), elem("p", text("a"), text("a"))},
		{kind(0, kind(-1, kind(4)), kind(-1<<63, kind(1<<63-1)))},
		{in(3, elem("p", in(-1, elem("p")))), in(-1<<63, elem("p"))},
		{elem(""), elem("P"), elem("\x00"), elem(strings.Repeat("p", api.MaxName+1))},
		{with(with(elem("p"), "a", "1"), "a", "1"), with(elem("p"), "", "\xff")},
		{text("\xff"), note("\x00"), full, odd, kind(api.Comment, odd, full)},
		{kind(api.Text, kind(api.Text, elem("p")), text("a"))},
		{kind(api.Text, kind(api.Text, elem("b")), text("b"))},
		deep(api.MaxDepth+1, text("a")),
		deep(api.MaxDepth+1, text("b")),
		slices.Repeat(list(p("a")), api.MaxNodes),
	}
}
