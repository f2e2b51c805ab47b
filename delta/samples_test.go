package delta

import (
	"fmt"
	"math/rand"
	"slices"
	"strings"

	"recto/api"
	"recto/edit"
	"recto/tree"
)

func text(s string) api.Node { return api.Node{Kind: api.Text, Text: s} }
func note(s string) api.Node { return api.Node{Kind: api.Comment, Text: s} }

func elem(name string, kids ...api.Node) api.Node {
	return api.Node{Kind: api.Element, Name: name, Kids: kids}
}

func in(space int, n api.Node) api.Node {
	n.Space = space
	return n
}

func attrs(l ...string) []api.Attr {
	var all []api.Attr
	for i := 0; i < len(l); i += 2 {
		all = append(all, api.Attr{Name: l[i], Value: l[i+1]})
	}
	return all
}

func with(n api.Node, l ...string) api.Node {
	n.Attrs = attrs(l...)
	return n
}

// kind is a node of that Kind, whatever it is, with kids.
func kind(k int, kids ...api.Node) api.Node { return api.Node{Kind: k, Kids: kids} }

// p is a paragraph of a text.
func p(s string) api.Node { return elem("p", text(s)) }

func list(l ...api.Node) []api.Node { return l }

func way(l ...int) []int { return l }

// steps is a way of that many steps, each the same.
func steps(n, step int) []int { return slices.Repeat(way(step), n) }

func script(l ...edit.Edit) []edit.Edit { return l }

// Edits of each What, with nothing that does not count.
func putIn(n api.Node, way ...int) edit.Edit {
	return edit.Edit{What: edit.PutIn, Way: way, New: n}
}

func takenOut(n api.Node, way ...int) edit.Edit {
	return edit.Edit{What: edit.TakenOut, Way: way, Old: n}
}

func newText(was, is string, way ...int) edit.Edit {
	return edit.Edit{What: edit.Text, Way: way, Old: api.Node{Text: was}, New: api.Node{Text: is}}
}

func newAttrs(was, is []api.Attr, way ...int) edit.Edit {
	return edit.Edit{What: edit.Attrs, Way: way, Old: api.Node{Attrs: was}, New: api.Node{Attrs: is}}
}

// deep is what l is in that many elements.
func deep(n int, l ...api.Node) []api.Node {
	for range n {
		l = list(elem("b", l...))
	}
	return l
}

// many are that many nodes, side by side.
func many(n int, node api.Node) []api.Node { return slices.Repeat(list(node), n) }

func long(n int) string { return strings.Repeat("x", n) }

// fullText is a text of as many bytes as quill.Text takes: two for how many nodes there are, two for its Kind, three for its length, and its words.
func fullText() api.Node { return text(long(api.MaxBytes - 7)) }

// rights are nodes of which each one alone is right, at the limits too.
func rights() []api.Node {
	full := elem(strings.Repeat("z", api.MaxName))
	for i := range api.MaxAttrs {
		full.Attrs = append(full.Attrs, api.Attr{Name: string(rune('a' + i)), Value: "<\"'&\n\xe2\x82\xac"})
	}
	return []api.Node{
		text("a"),
		text("<&>\"'\n\t\xc2\xa0"),
		note(""),
		note("-->"),
		elem("p"),
		in(api.SVG, elem("p", in(api.Math, elem("p")))),
		full,
		elem("div", p("1"), with(elem("ul", elem("li", p("2")), text("3")), "a", "b", "c", ""), note("4")),
		deep(api.MaxDepth, text("a"), note("b"), text("c"))[0],
		elem("p", many(api.MaxNodes-1, note(""))...),
		elem("p", many(api.MaxNodes-1, elem("b"))...),
		fullText(),
		with(elem("p"), "a", long(60000)),
	}
}

// tooLong are nodes of which each one alone is right, but of more bytes than quill.Text takes.
func tooLong() []api.Node {
	half := text(long(api.MaxBytes / 2))
	return []api.Node{
		text(fullText().Text + "x"),
		text(long(api.MaxBytes)),
		text(long(api.MaxBytes + 1)),
		note(long(api.MaxBytes)),
		elem("p", fullText()),
		elem("p", half, note(""), half),
		with(elem("p"), "a", long(api.MaxBytes)),
		with(elem("p"), "a", long(api.MaxBytes+1)),
		with(elem("p"), "a", long(api.MaxBytes/2), "b", long(api.MaxBytes/2)),
		deep(api.MaxDepth, text(long(3*api.MaxBytes)))[0],
	}
}

// wrongs are nodes that are not right, of each sort.
func wrongs() []api.Node {
	full := with(elem("p", note("")), "a", "b")
	full.Text = "t"
	named := text("t")
	named.Name = "p"
	return []api.Node{
		{},
		kind(4),
		kind(-1),
		kind(1<<63 - 1),
		text(""),
		text("\xff"),
		text("a\r"),
		note("\x00"),
		full,
		named,
		in(1, text("t")),
		in(1, note("t")),
		with(text("t"), "a", "b"),
		with(note("t"), "a", "b"),
		kind(api.Comment, text("k")),
		elem(""),
		elem("P"),
		elem(strings.Repeat("p", api.MaxName+1)),
		in(3, elem("p")),
		in(-1, elem("p")),
		with(elem("p"), "", ""),
		with(elem("p"), "a", "\xff"),
		with(elem("p"), "a", "1", "a", "1"),
		with(elem("p"), slices.Repeat([]string{"a", ""}, api.MaxAttrs+1)...),
		elem("p", text("a"), text("b")),
		elem("p", elem("p", text(""))),
		elem("p", many(api.MaxNodes, elem("b"))...),
		elem("p", many(api.MaxNodes, note(""))...),
		deep(api.MaxDepth + 1)[0],
		deep(api.MaxDepth, kind(0))[0],
	}
}

// oneParts are nodes that have one part alone, each.
func oneParts() map[string]api.Node {
	return map[string]api.Node{
		"a Kind":            {Kind: 1},
		"a Kind, Text":      {Kind: api.Text},
		"a Kind below 0":    {Kind: -1},
		"a Space":           {Space: 1},
		"a Space below 0":   {Space: -1},
		"a Name":            {Name: "a"},
		"Attrs":             {Attrs: attrs("a", "b")},
		"Attrs, empty ones": {Attrs: make([]api.Attr, 1)},
		"a Text":            {Text: "a"},
		"a Text, a 0":       {Text: "\x00"},
		"Kids":              {Kids: list(text("a"))},
		"Kids, empty ones":  {Kids: make([]api.Node, 1)},
	}
}

// joint is a node with the parts of two, of which no part is in both.
func joint(n, m api.Node) api.Node {
	return api.Node{
		Kind:  n.Kind + m.Kind,
		Space: n.Space + m.Space,
		Name:  n.Name + m.Name,
		Attrs: slices.Concat(n.Attrs, m.Attrs),
		Text:  n.Text + m.Text,
		Kids:  slices.Concat(n.Kids, m.Kids),
	}
}

// manyAttrs are that many attributes, all of one name.
func manyAttrs(n int) []api.Attr { return slices.Repeat(attrs("a", "b"), n) }

// longAttrs are some attributes, of which one has a name and a value of those lengths.
func longAttrs(at, name, value int) []api.Attr {
	l := manyAttrs(4)
	l[at] = api.Attr{Name: long(name), Value: long(value)}
	return l
}

// plains are edits that are plain, at the limits too, whose bytes can be told.
func plains() []edit.Edit {
	all := []edit.Edit{
		newText("", "", 0),
		newText("a", "b", 1, 2, 3),
		newText("b", "b", 0),
		newText("\xff\x00\r", "<&", 0),
		newText(long(api.MaxBytes), "", 0),
		newText("", long(api.MaxBytes), 0),
		newText(long(api.MaxBytes), long(api.MaxBytes), 0),
		newAttrs(nil, nil, 0),
		newAttrs([]api.Attr{}, []api.Attr{}, 0),
		newAttrs(attrs("a", "b"), nil, 0),
		newAttrs(nil, attrs("a", "b"), 0),
		newAttrs(attrs("", ""), attrs("A", "\xff\x00", "A", "\r"), 0),
		newAttrs(manyAttrs(api.MaxAttrs), manyAttrs(api.MaxAttrs), 0),
		{What: edit.Attrs, Way: way(0), Old: api.Node{Kids: list()}, New: api.Node{Kids: list(), Attrs: attrs("a", "b")}},
		{What: edit.Text, Way: way(0), Old: api.Node{Attrs: attrs(), Kids: list()}, New: api.Node{Text: "a", Kids: list()}},
		{What: edit.PutIn, Way: way(0), Old: api.Node{Attrs: []api.Attr{}, Kids: list()}, New: text("a")},
		{What: edit.TakenOut, Way: way(0), Old: text("a"), New: api.Node{Attrs: []api.Attr{}, Kids: list()}},
	}
	for _, at := range []int{0, 3} {
		l := longAttrs(at, api.MaxBytes, api.MaxBytes)
		all = append(all, newAttrs(l, nil, 0), newAttrs(nil, l, 0))
	}
	for _, n := range rights() {
		all = append(all, putIn(n, 0), takenOut(n, 0))
	}
	for _, w := range plainWays() {
		all = append(all, putIn(text("a"), w...), takenOut(p("a"), w...), newAttrs(nil, attrs("a", "b"), w...), newText("a", "b", w...))
	}
	return all
}

func plainWays() [][]int {
	return [][]int{
		way(0), way(1), way(255), way(256), way(api.MaxNodes - 1), way(api.MaxNodes),
		way(0, 0), way(api.MaxNodes, 0, api.MaxNodes), way(0, 1, 2, 3, 4, 5),
		steps(api.MaxDepth, 0), steps(api.MaxDepth+1, 0), steps(api.MaxDepth+1, api.MaxNodes),
	}
}

// wrongWays are ways that no plain edit has; those whose bytes could tell them come first.
func wrongWays() (all [][]int, telling int) {
	last := func(step int) []int { return append(steps(api.MaxDepth, 0), step) }
	telling = 9
	return [][]int{
		nil, way(api.MaxNodes + 1), way(api.MaxInt), way(0, api.MaxNodes+1), way(api.MaxNodes+1, 0), last(api.MaxNodes + 1),
		steps(api.MaxDepth+2, 0), steps(api.MaxDepth+2, api.MaxNodes), steps(1000, 1),
		way(), way(-1), way(-1 << 63), way(1<<63 - 1), way(0, -1), way(-1, 0), last(-1),
	}, telling
}

// tellingWrongs are edits that are not plain, whose bytes could tell what is wrong.
func tellingWrongs() []edit.Edit {
	over := long(api.MaxBytes + 1)
	all := []edit.Edit{
		newText(over, "", 0),
		newText("", over, 0),
		newAttrs(manyAttrs(api.MaxAttrs+1), nil, 0),
		newAttrs(nil, manyAttrs(api.MaxAttrs+1), 0),
		newAttrs(manyAttrs(500), nil, 0),
		newAttrs(nil, manyAttrs(501), 0),
	}
	for _, at := range []int{0, 3} {
		for _, l := range [][]api.Attr{longAttrs(at, api.MaxBytes+1, 0), longAttrs(at, 0, api.MaxBytes+1)} {
			all = append(all, newAttrs(l, nil, 0), newAttrs(nil, l, 0))
		}
	}
	for _, what := range []int{0, 5, 6, 255, 256, 257, 258, 1<<32 + 1, api.MaxInt} {
		all = append(all, edit.Edit{What: what, Way: way(0), New: text("a")})
	}
	for _, n := range wrongs() {
		if n.Kind >= 0 && n.Kind <= api.MaxInt && n.Space >= 0 && !hides(n) {
			all = append(all, putIn(n, 0), takenOut(n, 0))
		}
	}
	ways, telling := wrongWays()
	for _, w := range ways[:telling] {
		all = append(all, putIn(text("a"), w...), takenOut(p("a"), w...), newAttrs(nil, attrs("a", "b"), w...), newText("a", "b", w...))
	}
	return all
}

// hides tells whether a node has something that its bytes don't tell.
func hides(n api.Node) bool {
	if n.Kind == api.Element {
		return n.Text != ""
	}
	return n.Space != 0 || n.Name != "" || len(n.Attrs) > 0 || len(n.Kids) > 0
}

// otherWrongs are edits that are not plain, which no bytes could tell.
func otherWrongs() []edit.Edit {
	var all []edit.Edit
	for _, what := range []int{-1, -1 << 63, 1<<63 - 1} {
		all = append(all, edit.Edit{What: what, Way: way(0), New: text("a")})
	}
	for _, n := range wrongs() {
		all = append(all, putIn(n, 0), takenOut(n, 0))
	}
	ways, telling := wrongWays()
	for _, w := range ways[telling:] {
		all = append(all, putIn(text("a"), w...), takenOut(p("a"), w...), newAttrs(nil, attrs("a", "b"), w...), newText("a", "b", w...))
	}
	for name, part := range oneParts() {
		for what, both := range map[int]edit.Edit{edit.PutIn: putIn(text("a"), 0), edit.TakenOut: takenOut(text("a"), 0)} {
			both.Old, both.New = either(what == edit.PutIn, part, both.Old), either(what == edit.TakenOut, part, both.New)
			all = append(all, both)
		}
		if len(part.Attrs) == 0 {
			all = append(all, changed(newAttrs(attrs("a", "b"), attrs("a", "c"), 0), part)...)
			all = append(all, changed(newAttrs(nil, nil, 0), part)...)
		}
		if !strings.HasPrefix(name, "a Text") {
			all = append(all, changed(newText("a", "b", 0), part)...)
			all = append(all, changed(newText("", "", 0), part)...)
		}
	}
	// Put in and taken out as one, and neither.
	for what := range 2 {
		all = append(all, edit.Edit{What: 1 + what, Way: way(0), Old: text("a"), New: text("a")}, edit.Edit{What: 1 + what, Way: way(0)})
	}
	return append(all, edit.Edit{What: edit.PutIn, Way: way(0), Old: text("a")}, edit.Edit{What: edit.TakenOut, Way: way(0), New: text("a")})
}

func either(first bool, n, m api.Node) api.Node {
	if first {
		return n
	}
	return m
}

// changed are an edit with a part more in Old, in New, and in both.
func changed(x edit.Edit, part api.Node) []edit.Edit {
	old, is, both := x, x, x
	old.Old, is.New = joint(x.Old, part), joint(x.New, part)
	both.Old, both.New = old.Old, is.New
	return script(old, is, both)
}

func hasOnly(n api.Node, kind, attrs, text bool) bool {
	return (kind || n.Kind == 0) && n.Space == 0 && n.Name == "" && (attrs || len(n.Attrs) == 0) && (text || n.Text == "") && len(n.Kids) == 0
}

// isPlain tells whether an edit is plain, as the chapter tells it.
func isPlain(x edit.Edit) bool {
	if len(x.Way) < 1 || len(x.Way) > 41 || slices.Min(x.Way) < 0 || slices.Max(x.Way) > 300 {
		return false
	}
	right := func(n api.Node) bool { return tree.Check(list(n)) == api.OK }
	switch x.What {
	case 1:
		return hasOnly(x.Old, false, false, false) && right(x.New)
	case 2:
		return right(x.Old) && hasOnly(x.New, false, false, false)
	case 3:
		long := func(a api.Attr) bool { return len(a.Name) > 65536 || len(a.Value) > 65536 }
		return hasOnly(x.Old, false, true, false) && hasOnly(x.New, false, true, false) &&
			len(x.Old.Attrs) <= 12 && len(x.New.Attrs) <= 12 &&
			!slices.ContainsFunc(x.Old.Attrs, long) && !slices.ContainsFunc(x.New.Attrs, long)
	case 4:
		return hasOnly(x.Old, false, false, true) && hasOnly(x.New, false, false, true) && len(x.Old.Text) <= 65536 && len(x.New.Text) <= 65536
	}
	return false
}

// plainErr is what Bytes answers beside bytes, as the chapter tells it.
func plainErr(s []edit.Edit) api.Errno {
	if len(s) > 400 {
		return api.ErrLong
	}
	for _, x := range s {
		if !isPlain(x) {
			return api.ErrForm
		}
	}
	for _, x := range s {
		n := either(x.What == 1, x.New, x.Old)
		if x.What <= 2 && len(nodeBytes(list(n))) > 65536 {
			return api.ErrLong
		}
	}
	return api.OK
}

// num is a number's bytes.
func num(n int) string {
	digits := ""
	for ; n > 0; n /= 256 {
		digits = string([]byte{byte(n % 256)}) + digits
	}
	return string([]byte{byte(len(digits))}) + digits
}

// word is a text's bytes, though it may be longer than a text may be.
func word(s string) string { return num(len(s)) + s }

// nodeBytes are nodes' bytes, though they may not be right. (What is neither a text nor a comment is written as an element.)
func nodeBytes(l []api.Node) string {
	var b strings.Builder
	b.WriteString(num(len(l)))
	for _, n := range l {
		b.WriteString(num(n.Kind))
		if n.Kind == api.Text || n.Kind == api.Comment {
			b.WriteString(word(n.Text))
			continue
		}
		b.WriteString(num(n.Space) + word(n.Name) + num(len(n.Attrs)))
		for _, a := range n.Attrs {
			b.WriteString(word(a.Name) + word(a.Value))
		}
		b.WriteString(nodeBytes(n.Kids))
	}
	return b.String()
}

// attrBytes are the bytes of names and values as a list.
func attrBytes(l []api.Attr) string {
	var b strings.Builder
	b.WriteString(num(2 * len(l)))
	for _, a := range l {
		b.WriteString(word(a.Name) + word(a.Value))
	}
	return b.String()
}

// head is what an edit's bytes begin with: its What and its way.
func head(x edit.Edit) string {
	s := num(x.What) + num(len(x.Way))
	for _, step := range x.Way {
		s += num(step)
	}
	return s
}

// editBytes are an edit's bytes as the chapter tells them, though it may not be plain. (One of a What that is none is written as a PutIn.)
func editBytes(x edit.Edit) string {
	switch x.What {
	case edit.TakenOut:
		return head(x) + word(nodeBytes(list(x.Old)))
	case edit.Attrs:
		return head(x) + attrBytes(x.Old.Attrs) + attrBytes(x.New.Attrs)
	case edit.Text:
		return head(x) + word(x.Old.Text) + word(x.New.Text)
	}
	return head(x) + word(nodeBytes(list(x.New)))
}

func scriptBytes(s []edit.Edit) string {
	var b strings.Builder
	b.WriteString(num(len(s)))
	for _, x := range s {
		b.WriteString(editBytes(x))
	}
	return b.String()
}

func same(a, b []api.Node) bool { return slices.EqualFunc(a, b, sameNode) }

func sameNode(n, m api.Node) bool {
	return n.Kind == m.Kind && n.Space == m.Space && n.Name == m.Name && n.Text == m.Text && slices.Equal(n.Attrs, m.Attrs) && same(n.Kids, m.Kids)
}

// exact tells whether two scripts are the same in all that they have, be it of meaning or not.
func exact(a, b []edit.Edit) bool {
	return slices.EqualFunc(a, b, func(x, y edit.Edit) bool {
		return x.What == y.What && slices.Equal(x.Way, y.Way) && sameNode(x.Old, y.Old) && sameNode(x.New, y.New)
	})
}

// show is a script in short.
func show(s []edit.Edit) string {
	out := fmt.Sprintf("%d edits: %v", len(s), s[:min(len(s), 3)])
	return out[:min(len(out), 300)]
}

// wholeNodes tells all that nodes have, so that a change shows; spare room too.
func wholeNodes(l []api.Node) string {
	var b strings.Builder
	for i, n := range l[:cap(l)] {
		fmt.Fprintf(&b, "(%v %d %d %q %d %q %q", i < len(l), n.Kind, n.Space, n.Name, len(n.Attrs), n.Attrs[:cap(n.Attrs)], n.Text)
		b.WriteString(wholeNodes(n.Kids) + ")")
	}
	return b.String()
}

// wholeScript tells all that a script has, spare room too.
func wholeScript(s []edit.Edit) string {
	var b strings.Builder
	for i, x := range s[:cap(s)] {
		fmt.Fprintf(&b, "{%v %d %d %v", i < len(s), x.What, len(x.Way), x.Way[:cap(x.Way)])
		b.WriteString(wholeNodes(list(x.Old)) + wholeNodes(list(x.New)) + "}")
	}
	return b.String()
}

// junk is written into what should be nobody's.
var junk = api.Node{Kind: 99, Space: 9, Name: "junk", Text: "junk"}

// spoilAttrs writes junk over all that a list has, spare room too.
func spoilAttrs(l []api.Attr) {
	for i := range l[:cap(l)] {
		l[:cap(l)][i] = api.Attr{Name: "junk", Value: "junk"}
	}
}

// spoil writes junk over all that lists have, spare room too.
func spoil(l []api.Node) {
	for i := range l[:cap(l)] {
		n := &l[:cap(l)][i]
		spoilAttrs(n.Attrs)
		spoil(n.Kids)
		*n = junk
	}
}

// roomy are the same nodes in other memory, in lists that have junk as spare room.
func roomy(l []api.Node) []api.Node {
	var r []api.Node
	for _, n := range l {
		n.Kids = roomy(n.Kids)
		n.Attrs = append(slices.Clone(n.Attrs), api.Attr{Name: "junk"})[:len(n.Attrs)]
		r = append(r, n)
	}
	return append(r, junk)[:len(l)]
}

// roomyScript is the same script in other memory, in lists that have junk as spare room.
func roomyScript(s []edit.Edit) []edit.Edit {
	var r []edit.Edit
	for _, x := range s {
		x.Way = append(slices.Clone(x.Way), -7)[:len(x.Way)]
		x.Old, x.New = roomy(list(x.Old))[0], roomy(list(x.New))[0]
		r = append(r, x)
	}
	return append(r, edit.Edit{What: 77})[:len(s)]
}

// some is a list of nodes, by chance; mostly they are right.
func some(r *rand.Rand, depth int) []api.Node {
	var l []api.Node
	for range r.Intn(4) {
		n := elem([]string{"a", "p", "div"}[r.Intn(3)])
		switch r.Intn(6) {
		case 0:
			n = note([]string{"", "n"}[r.Intn(2)])
		case 1, 2:
			if last := len(l) - 1; last < 0 || l[last].Kind != api.Text || r.Intn(40) == 0 {
				n = text([]string{"a", "b", " c"}[r.Intn(3)])
			}
		}
		if n.Kind == api.Element {
			for _, name := range []string{"a", "b", "c"}[r.Intn(4):] {
				n.Attrs = append(n.Attrs, api.Attr{Name: name, Value: []string{"", "1", "\""}[r.Intn(3)]})
			}
			n.Space = r.Intn(3) * r.Intn(2)
			if depth > 0 {
				n.Kids = some(r, depth-1)
			}
		}
		l = append(l, n)
	}
	return l
}

// someAttrs are attributes, by chance, be they right or not.
func someAttrs(r *rand.Rand) []api.Attr {
	var l []api.Attr
	for range r.Intn(4) {
		l = append(l, api.Attr{Name: []string{"", "a", "B"}[r.Intn(3)], Value: []string{"", "1", "\xff"}[r.Intn(3)]})
	}
	return l
}

// someEdit is an edit, by chance; mostly it is plain.
func someEdit(r *rand.Rand) edit.Edit {
	w := way(r.Intn(4))
	for range r.Intn(3) {
		w = append(w, []int{0, 1, 255, 256, 299, 300}[r.Intn(6)])
	}
	switch l := some(r, 2); r.Intn(4) {
	case 0:
		if len(l) > 0 {
			return putIn(l[0], w...)
		}
	case 1:
		if len(l) > 0 {
			return takenOut(l[0], w...)
		}
	case 2:
		return newAttrs(someAttrs(r), someAttrs(r), w...)
	}
	words := []string{"", "a", "b\xff", "\r\x00", "c d"}
	return newText(words[r.Intn(5)], words[r.Intn(5)], w...)
}

func someScript(r *rand.Rand) []edit.Edit {
	var s []edit.Edit
	for range r.Intn(6) {
		s = append(s, someEdit(r))
	}
	return s
}
