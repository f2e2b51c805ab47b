package arena

import (
	"math"
	"slices"
	"strconv"
	"strings"
	"testing"

	"recto/api"
)

// grown is an arena of the tree that a text tells: a name with its kids in brackets, "words", !comment!; names are one letter.
// Its nodes are numbered as they stand in the text.
func grown(t testing.TB, text string) *Arena {
	t.Helper()
	a := New()
	open := []int{0}
	for i := 0; i < len(text); i++ {
		parent := open[len(open)-1]
		switch c := text[i]; c {
		case '(':
			open = append(open, a.Len()-1)
		case ')':
			open = open[:len(open)-1]
		case '"':
			n := strings.IndexByte(text[i+1:], '"')
			ok(t, text, a.Words(parent, text[i+1:i+1+n]))
			i += n + 1
		case '!':
			n := strings.IndexByte(text[i+1:], '!')
			id, err := a.Comment(text[i+1 : i+1+n])
			ok(t, text, err)
			ok(t, text, a.Append(parent, id))
			i += n + 1
		default:
			id, err := a.Element(api.HTML, string(c), nil)
			ok(t, text, err)
			ok(t, text, a.Append(parent, id))
		}
	}
	return a
}

// ok fails, if there is an error.
func ok(t testing.TB, what string, err api.Errno) {
	t.Helper()
	if err != api.OK {
		t.Fatalf("%s: %v", what, err)
	}
}

// told are nodes as grown has them, attributes and spaces too, where there are any.
func told(l []api.Node) string {
	s := ""
	for _, n := range l {
		switch n.Kind {
		case api.Text:
			s += "\"" + n.Text + "\""
		case api.Comment:
			s += "!" + n.Text + "!"
		default:
			s += n.Name
			if n.Space != api.HTML {
				s += ":" + strconv.Itoa(n.Space)
			}
			for _, x := range n.Attrs {
				s += " " + x.Name + "=" + x.Value
			}
			if len(n.Kids) > 0 {
				s += "(" + told(n.Kids) + ")"
			}
		}
	}
	return s
}

// is fails, if an arena's tree is another one, or nodes of it have what they should not.
func is(t testing.TB, what string, a *Arena, want string) {
	t.Helper()
	l := a.Tree()
	if got := told(l); got != want {
		t.Fatalf("%s: %s; want %s", what, got, want)
	}
	plain(t, what, l)
	sound(t, what, a)
}

// plain fails, if a text or a comment has what elements have, or an element has words, or texts stand side by side.
func plain(t testing.TB, what string, l []api.Node) {
	t.Helper()
	for i, n := range l {
		switch n.Kind {
		case api.Element:
			if n.Text != "" {
				t.Fatalf("%s: an element with words: %v", what, n)
			}
		case api.Text, api.Comment:
			if n.Space != 0 || n.Name != "" || len(n.Attrs) > 0 || len(n.Kids) > 0 {
				t.Fatalf("%s: a text or a comment with more: %v", what, n)
			}
		default:
			t.Fatalf("%s: a node of no kind: %v", what, n)
		}
		if i > 0 && n.Kind == api.Text && l[i-1].Kind == api.Text {
			t.Fatalf("%s: texts side by side: %v", what, l)
		}
		plain(t, what, n.Kids)
	}
}

// sound fails, if promise 11.4 is broken: each node that has a parent is its kid once, and nobody else's; all ways up end.
func sound(t testing.TB, what string, a *Arena) {
	t.Helper()
	kidOf := map[int]int{}
	for id := range a.Len() {
		for _, k := range a.Kids(id) {
			if _, twice := kidOf[k]; twice || k == 0 {
				t.Fatalf("%s: %d is a kid twice, or the root", what, k)
			}
			kidOf[k] = id
		}
	}
	for id := range a.Len() {
		p, has := a.Parent(id)
		if q, want := kidOf[id]; has != want || p != q {
			t.Fatalf("%s: the parent of %d is %d, %v; it is a kid of %d, %v", what, id, p, has, q, want)
		}
		steps := 0
		for up, has := a.Parent(id); has; up, has = a.Parent(up) {
			if steps++; steps > Most {
				t.Fatalf("%s: from %d no way up ends", what, id)
			}
		}
	}
}

// whole is all that an arena tells.
func whole(a *Arena) string {
	s := strconv.Itoa(a.Len())
	for id := -1; id <= a.Len(); id++ {
		p, has := a.Parent(id)
		s += "\n" + strconv.Itoa(id) + " " + strconv.Itoa(p) + " " + strconv.FormatBool(has)
		for _, k := range a.Kids(id) {
			s += " " + strconv.Itoa(k)
		}
	}
	return s + "\n" + told(a.Tree())
}

// refused fails, if a call answers another error, or has changed something.
func refused(t testing.TB, what string, a *Arena, want api.Errno, call func() api.Errno) {
	t.Helper()
	before := whole(a)
	if err := call(); err != want {
		t.Errorf("%s: %v; want %v", what, err, want)
	}
	if after := whole(a); after != before {
		t.Errorf("%s: refused, but changed: %s; was %s", what, after, before)
	}
}

// noNodes are numbers that are none of a node in an arena of n nodes.
func noNodes(n int) []int {
	return []int{-1, -2, n, n + 1, Most, Most + 1, math.MinInt, math.MaxInt, 1 << 32, -1 << 32}
}

// Promise 11.1: the constant that the chapter names.
func TestConstant(t *testing.T) {
	if Most != 600 {
		t.Error(Most)
	}
}

// Promise 11.1: a new arena has a root alone, and is no other one's.
func TestNew(t *testing.T) {
	a, b := New(), New()
	for _, x := range []*Arena{a, b} {
		if p, has := x.Parent(0); x.Len() != 1 || len(x.Kids(0)) != 0 || has || p != 0 || len(x.Tree()) != 0 {
			t.Errorf("new: %s", whole(x))
		}
	}
	ok(t, "Words", a.Words(0, "a"))
	is(t, "the one", a, `"a"`)
	is(t, "the other", b, "")
	if b.Len() != 1 || New().Len() != 1 {
		t.Error("arenas share nodes")
	}
}

// The chapter's example.
func TestExample(t *testing.T) {
	a := New()
	id, err := a.Element(api.HTML, "p", nil)
	if id != 1 || err != api.OK {
		t.Errorf("Element: %d, %v", id, err)
	}
	ok(t, "Append", a.Append(0, 1))
	ok(t, "Words", a.Words(1, "a"))
	ok(t, "Words", a.Words(1, "b"))
	is(t, "example", a, `p("ab")`)
	if a.Len() != 3 {
		t.Errorf("Len: %d", a.Len())
	}
}

// Promise 11.1: nodes are numbered as they come, and loose; any space, name, attributes and text.
func TestElementComment(t *testing.T) {
	a := New()
	same := []api.Attr{{Name: "x", Value: "1"}, {Name: "x", Value: "1"}, {}}
	for i, c := range []struct {
		space int
		name  string
		attrs []api.Attr
	}{
		{api.HTML, "p", nil}, {api.SVG, "svg", []api.Attr{}}, {api.Math, "mi", []api.Attr{{Name: "a", Value: "b"}}},
		{-5, "", same}, {math.MaxInt, "\x00\xff <", nil}, {math.MinInt, strings.Repeat("n", 1000), slices.Repeat(same, 50)},
	} {
		id, err := a.Element(c.space, c.name, c.attrs)
		if id != 2*i+1 || err != api.OK {
			t.Errorf("Element %d: %d, %v", i, id, err)
		}
		text := strings.Repeat("\x00-->\xff", i)
		note, err := a.Comment(text)
		if note != 2*i+2 || err != api.OK {
			t.Errorf("Comment %d: %d, %v", i, note, err)
		}
		for _, x := range []int{id, note} {
			if p, has := a.Parent(x); has || p != 0 || len(a.Kids(x)) != 0 {
				t.Errorf("%d is not loose: %d, %v", x, p, has)
			}
		}
		ok(t, "Append", a.Append(0, id))
		ok(t, "Append", a.Append(0, note))
		l := a.Tree()
		e, n := l[2*i], l[2*i+1]
		if len(l) != 2*i+2 || e.Kind != api.Element || e.Space != c.space || e.Name != c.name || !slices.Equal(e.Attrs, c.attrs) || e.Text != "" || len(e.Kids) > 0 {
			t.Errorf("element %d: %v", i, e)
		}
		if n.Kind != api.Comment || n.Text != text || n.Space != 0 || n.Name != "" || len(n.Attrs) > 0 || len(n.Kids) > 0 {
			t.Errorf("comment %d: %v", i, n)
		}
	}
	sound(t, "all", a)
	if a.Len() != 13 {
		t.Errorf("Len: %d", a.Len())
	}
}

// Promise 11.1: a loose node is not in the tree, nor is what is below it.
func TestLooseIsNotTold(t *testing.T) {
	a := grown(t, `p("a"b(i))`) // p 1, a 2, b 3, i 4
	id, _ := a.Element(api.HTML, "u", nil)
	is(t, "loose", a, `p("a"b(i))`)
	ok(t, "Words", a.Words(id, "z"))
	ok(t, "Detach", a.Detach(3))
	ok(t, "Append", a.Append(id, 3))
	is(t, "two loose", a, `p("a")`)
	if a.Len() != 7 {
		t.Errorf("Len: %d", a.Len())
	}
	ok(t, "Append", a.Append(1, id))
	is(t, "put in", a, `p("a"u("z"b(i)))`)
}

// filled is an arena of n nodes: p and a comment below the root, and the others loose.
func filled(t testing.TB, n int) *Arena {
	a := grown(t, "p!c!")
	for a.Len() < n {
		_, err := a.Element(api.HTML, "x", nil)
		ok(t, "Element", err)
	}
	return a
}

// Promises 11.1, 11.2: Most nodes, and one more, by each call that makes one.
func TestFull(t *testing.T) {
	kinds := map[string]func(a *Arena) (int, api.Errno){
		"Element":     func(a *Arena) (int, api.Errno) { return a.Element(api.SVG, "x", []api.Attr{{Name: "y"}}) },
		"Comment":     func(a *Arena) (int, api.Errno) { return a.Comment("x") },
		"Words":       func(a *Arena) (int, api.Errno) { return Most - 1, a.Words(1, "x") },
		"WordsBefore": func(a *Arena) (int, api.Errno) { return Most - 1, a.WordsBefore(2, "x") },
	}
	for name, last := range kinds {
		a := filled(t, Most-1)
		if id, err := last(a); id != Most-1 || err != api.OK || a.Len() != Most {
			t.Errorf("the last one, by %s: %d, %v, %d", name, id, err, a.Len())
		}
		for more, call := range map[string]func() api.Errno{
			"Element": func() api.Errno { return zeroID(t, a.Element, api.HTML, "x", nil) },
			"Comment": func() api.Errno {
				id, err := a.Comment("")
				if id != 0 {
					t.Errorf("a number beside an error: %d", id)
				}
				return err
			},
			"Words":             func() api.Errno { return a.Words(3, "x") },
			"WordsBefore":       func() api.Errno { return a.WordsBefore(1, "x") },
			"Words of root":     func() api.Errno { return a.Words(0, "x") },
			"Words of an empty": func() api.Errno { return a.Words(Most-2, "x") },
		} {
			refused(t, name+", then "+more, a, api.ErrFull, call)
		}
		// What is wrong otherwise comes first.
		refused(t, "no words", a, api.ErrArg, func() api.Errno { return a.Words(3, "") })
		refused(t, "no element", a, api.ErrArg, func() api.Errno { return a.Words(2, "x") })
		refused(t, "no words", a, api.ErrArg, func() api.Errno { return a.WordsBefore(1, "") })
		refused(t, "loose", a, api.ErrState, func() api.Errno { return a.WordsBefore(3, "x") })
		refused(t, "root", a, api.ErrState, func() api.Errno { return a.WordsBefore(0, "x") })
		// Nodes may still be moved.
		ok(t, "Append", a.Append(1, 3))
		ok(t, "Before", a.Before(2, 4))
		ok(t, "Detach", a.Detach(3))
		ok(t, "Give", a.Give(0, 5))
		sound(t, name, a)
	}
}

// zeroID is the error of Element, and fails, if a number stands beside it.
func zeroID(t testing.TB, make func(int, string, []api.Attr) (int, api.Errno), space int, name string, attrs []api.Attr) api.Errno {
	id, err := make(space, name, attrs)
	if id != 0 {
		t.Errorf("a number beside an error: %d", id)
	}
	return err
}

// Promise 11.2: where a text stands just ahead, words need no new node, though the arena is full.
func TestWordsWhenFull(t *testing.T) {
	a := grown(t, `p("a")"b"!c!`) // p 1, a 2, b 3, c 4
	for a.Len() < Most {
		_, err := a.Comment("x")
		ok(t, "Comment", err)
	}
	ok(t, "Words", a.Words(1, "1"))
	ok(t, "WordsBefore", a.WordsBefore(4, "2"))
	is(t, "put behind", a, `p("a1")"b2"!c!`)
	refused(t, "behind a comment", a, api.ErrFull, func() api.Errno { return a.Words(0, "x") })
	refused(t, "behind an element", a, api.ErrFull, func() api.Errno { return a.WordsBefore(3, "x") })
	refused(t, "ahead of a text", a, api.ErrFull, func() api.Errno { return a.WordsBefore(2, "x") })
	refused(t, "ahead of all", a, api.ErrFull, func() api.Errno { return a.WordsBefore(1, "x") })
	if a.Len() != Most {
		t.Errorf("Len: %d", a.Len())
	}
}

// Promise 11.1: Append: the last kid; of what is no node, no element, the root, not loose, itself, above.
func TestAppend(t *testing.T) {
	a := grown(t, `p("a"b(i))!c!`) // p 1, a 2, b 3, i 4, c 5
	u, _ := a.Element(api.HTML, "u", nil)
	s, _ := a.Element(api.HTML, "s", nil)
	n, _ := a.Comment("n")
	for _, x := range noNodes(a.Len()) {
		refused(t, "no parent", a, api.ErrArg, func() api.Errno { return a.Append(x, u) })
		refused(t, "no node", a, api.ErrArg, func() api.Errno { return a.Append(1, x) })
		refused(t, "neither", a, api.ErrArg, func() api.Errno { return a.Append(x, x) })
		refused(t, "no parent of a root", a, api.ErrArg, func() api.Errno { return a.Append(x, 0) })
	}
	for _, parent := range []int{2, 5, n} {
		for _, id := range []int{0, 1, parent, u} {
			refused(t, "a parent that is no element", a, api.ErrArg, func() api.Errno { return a.Append(parent, id) })
		}
	}
	for _, c := range []struct{ parent, id int }{{0, 0}, {1, 0}, {u, 0}, {0, 1}, {1, 3}, {1, 1}, {3, 1}, {4, 1}, {u, 4}, {0, 5}, {u, u}} {
		refused(t, "Append "+strconv.Itoa(c.parent)+" "+strconv.Itoa(c.id), a, api.ErrState, func() api.Errno { return a.Append(c.parent, c.id) })
	}
	ok(t, "Append", a.Append(3, n))
	is(t, "a comment", a, `p("a"b(i!n!))!c!`)
	ok(t, "Append", a.Append(u, s))
	refused(t, "below itself", a, api.ErrState, func() api.Errno { return a.Append(s, u) })
	refused(t, "not loose", a, api.ErrState, func() api.Errno { return a.Append(0, s) })
	ok(t, "Append", a.Append(0, u))
	is(t, "at the root's end", a, `p("a"b(i!n!))!c!u(s)`)
	ok(t, "Detach", a.Detach(1))
	for _, parent := range []int{1, 3, 4} {
		refused(t, "a loose one below itself", a, api.ErrState, func() api.Errno { return a.Append(parent, 1) })
	}
	ok(t, "Append", a.Append(s, 1))
	is(t, "below another one", a, `!c!u(s(p("a"b(i!n!))))`)
	refused(t, "the root below all", a, api.ErrState, func() api.Errno { return a.Append(4, 0) })
}

// Promise 11.1: a text may be loosened and put elsewhere, as each other node.
func TestTextMoves(t *testing.T) {
	a := grown(t, `p("a")b("b")`) // p 1, a 2, b 3, b 4
	refused(t, "a text as parent", a, api.ErrArg, func() api.Errno { return a.Append(2, 3) })
	ok(t, "Detach", a.Detach(2))
	refused(t, "a loose text as parent", a, api.ErrArg, func() api.Errno { return a.Append(2, 2) })
	ok(t, "Append", a.Append(3, 2))
	if l := a.Kids(3); !slices.Equal(l, []int{4, 2}) || a.Len() != 5 {
		t.Errorf("Kids: %v, %d", l, a.Len())
	}
	is(t, "side by side", a, `pb("ba")`)
	ok(t, "Detach", a.Detach(4))
	ok(t, "Before", a.Before(1, 4))
	is(t, "ahead", a, `"b"pb("a")`)
}

// Promise 11.1: Before: just ahead; each state that it refuses.
func TestBefore(t *testing.T) {
	a := grown(t, `p("a"b(i))!c!`) // p 1, a 2, b 3, i 4, c 5
	u, _ := a.Element(api.HTML, "u", nil)
	s, _ := a.Element(api.HTML, "s", nil)
	n, _ := a.Comment("n")
	for _, x := range noNodes(a.Len()) {
		refused(t, "no next", a, api.ErrArg, func() api.Errno { return a.Before(x, u) })
		refused(t, "no node", a, api.ErrArg, func() api.Errno { return a.Before(1, x) })
		refused(t, "neither", a, api.ErrArg, func() api.Errno { return a.Before(x, x) })
		refused(t, "no node ahead of the root", a, api.ErrArg, func() api.Errno { return a.Before(0, x) })
		refused(t, "no next of the root", a, api.ErrArg, func() api.Errno { return a.Before(x, 0) })
		refused(t, "no node ahead of a loose one", a, api.ErrArg, func() api.Errno { return a.Before(u, x) })
	}
	for _, c := range []struct{ next, id int }{
		{s, u}, {n, u}, {0, u}, {0, 0}, {1, 0}, {u, 0}, {1, 5}, {5, 1}, {3, 2}, {u, u}, {1, 1}, {3, 1}, {4, 1}, {0, 1},
	} {
		refused(t, "Before "+strconv.Itoa(c.next)+" "+strconv.Itoa(c.id), a, api.ErrState, func() api.Errno { return a.Before(c.next, c.id) })
	}
	ok(t, "Before", a.Before(1, u))
	is(t, "ahead of the first", a, `up("a"b(i))!c!`)
	ok(t, "Before", a.Before(3, n))
	is(t, "between", a, `up("a"!n!b(i))!c!`)
	ok(t, "Before", a.Before(5, s))
	is(t, "ahead of a comment", a, `up("a"!n!b(i))s!c!`)
	ok(t, "Detach", a.Detach(n))
	ok(t, "Before", a.Before(2, n))
	is(t, "ahead of a text", a, `up(!n!"a"b(i))s!c!`)
	ok(t, "Detach", a.Detach(1))
	for _, next := range []int{2, 3, 4, n} {
		refused(t, "ahead of one below itself", a, api.ErrState, func() api.Errno { return a.Before(next, 1) })
	}
	ok(t, "Before", a.Before(u, 1))
	is(t, "back", a, `p(!n!"a"b(i))us!c!`)
}

// Promise 11.1: what is not in the tree, but has a parent, is as good as what is.
func TestBelowLoose(t *testing.T) {
	a := New()
	for _, n := range []string{"p", "b", "i", "u"} {
		_, err := a.Element(api.HTML, n, nil)
		ok(t, n, err)
	}
	ok(t, "Append", a.Append(1, 2))
	ok(t, "Before", a.Before(2, 3))
	ok(t, "WordsBefore", a.WordsBefore(2, "x"))
	ok(t, "Words", a.Words(1, "y"))
	is(t, "loose", a, "")
	if l := a.Kids(1); !slices.Equal(l, []int{3, 5, 2, 6}) {
		t.Errorf("Kids: %v", l)
	}
	refused(t, "below itself", a, api.ErrState, func() api.Errno { return a.Before(3, 1) })
	ok(t, "Append", a.Append(0, 1))
	is(t, "put in", a, `p(i"x"b"y")`)
}

// Promise 11.1: Detach: of what is no node, the root, loose; it keeps its kids.
func TestDetach(t *testing.T) {
	a := grown(t, `p("a"b("x"i)"z")!c!`) // p 1, a 2, b 3, x 4, i 5, z 6, c 7
	for _, x := range noNodes(a.Len()) {
		refused(t, "no node", a, api.ErrArg, func() api.Errno { return a.Detach(x) })
	}
	refused(t, "the root", a, api.ErrState, func() api.Errno { return a.Detach(0) })
	ok(t, "Detach", a.Detach(3))
	refused(t, "loose", a, api.ErrState, func() api.Errno { return a.Detach(3) })
	is(t, "gone", a, `p("az")!c!`)
	if l := a.Kids(1); !slices.Equal(l, []int{2, 6}) || !slices.Equal(a.Kids(3), []int{4, 5}) || a.Len() != 8 {
		t.Errorf("Kids: %v, %v", l, a.Kids(3))
	}
	ok(t, "Detach", a.Detach(5))
	ok(t, "Append", a.Append(0, 5))
	ok(t, "Append", a.Append(5, 3))
	is(t, "put elsewhere", a, `p("az")!c!i(b("x"))`)
	for _, id := range []int{7, 2, 1} {
		ok(t, "Detach", a.Detach(id))
		if p, has := a.Parent(id); has || p != 0 {
			t.Errorf("the parent of %d: %d, %v", id, p, has)
		}
	}
	is(t, "left", a, `i(b("x"))`)
}

// Promise 11.2: Give: all kids, in their order, behind those of the other one.
func TestGive(t *testing.T) {
	a := grown(t, `p("a"b!n!"z")i("y"u)s!c!`) // p 1, a 2, b 3, n 4, z 5, i 6, y 7, u 8, s 9, c 10
	for _, x := range append(noNodes(a.Len()), 2, 4, 10) {
		refused(t, "no element", a, api.ErrArg, func() api.Errno { return a.Give(x, 1) })
		refused(t, "to no element", a, api.ErrArg, func() api.Errno { return a.Give(1, x) })
		refused(t, "neither", a, api.ErrArg, func() api.Errno { return a.Give(x, x) })
	}
	for _, c := range []struct{ from, to int }{{1, 1}, {9, 9}, {0, 0}, {0, 1}, {0, 3}, {1, 3}, {6, 8}} {
		refused(t, "Give "+strconv.Itoa(c.from)+" "+strconv.Itoa(c.to), a, api.ErrState, func() api.Errno { return a.Give(c.from, c.to) })
	}
	before := whole(a)
	ok(t, "Give of nothing", a.Give(9, 1))
	ok(t, "Give of nothing to one that has nothing", a.Give(9, 8))
	ok(t, "Give of nothing to the root", a.Give(9, 0))
	if whole(a) != before {
		t.Errorf("Give of nothing: %s", whole(a))
	}
	ok(t, "Give", a.Give(1, 6))
	is(t, "given", a, `pi("y"u"a"b!n!"z")s!c!`)
	if l := a.Kids(6); !slices.Equal(l, []int{7, 8, 2, 3, 4, 5}) || len(a.Kids(1)) != 0 {
		t.Errorf("Kids: %v, %v", l, a.Kids(1))
	}
	ok(t, "Give to one above", a.Give(6, 0))
	is(t, "to the root", a, `pis!c!"y"u"a"b!n!"z"`)
	x, _ := a.Element(api.HTML, "x", nil)
	ok(t, "Give of the root", a.Give(0, x))
	is(t, "of the root to a loose one", a, "")
	if len(a.Kids(x)) != 10 {
		t.Errorf("Kids: %v", a.Kids(x))
	}
	refused(t, "to one below a loose one", a, api.ErrState, func() api.Errno { return a.Give(x, 3) })
	ok(t, "Append", a.Append(0, x))
	is(t, "put in", a, `x(pis!c!"y"u"a"b!n!"z")`)
}

// Promises 11.2, 11.3: texts that are given side by side stay two nodes, and are one in the tree.
func TestGiveTexts(t *testing.T) {
	a := grown(t, `p("a")b("b"i"c")`) // p 1, a 2, b 3, b 4, i 5, c 6
	ok(t, "Give", a.Give(3, 1))
	is(t, "given", a, `p("ab"i"c")b`)
	if a.Len() != 7 || !slices.Equal(a.Kids(1), []int{2, 4, 5, 6}) {
		t.Errorf("Kids: %v", a.Kids(1))
	}
	ok(t, "Words", a.Words(1, "!"))
	is(t, "words at the end", a, `p("ab"i"c!")b`)
	ok(t, "WordsBefore", a.WordsBefore(5, "?"))
	is(t, "words ahead", a, `p("ab?"i"c!")b`)
	ok(t, "WordsBefore", a.WordsBefore(4, "-"))
	is(t, "words between", a, `p("a-b?"i"c!")b`)
	if a.Len() != 7 {
		t.Errorf("Len: %d", a.Len())
	}
	ok(t, "Detach", a.Detach(5))
	is(t, "three side by side", a, `p("a-b?c!")b`)
	ok(t, "WordsBefore", a.WordsBefore(2, "0"))
	is(t, "four side by side", a, `p("0a-b?c!")b`)
	if l := a.Kids(1); len(l) != 4 || l[0] != 7 || a.Len() != 8 {
		t.Errorf("Kids: %v, %d", l, a.Len())
	}
}

// Promise 11.2: Words: behind a text at the end, or a new one.
func TestWords(t *testing.T) {
	a := grown(t, "p!c!") // p 1, c 2
	n, _ := a.Element(api.Math, "x", nil)
	for _, x := range append(noNodes(a.Len()), 2) {
		refused(t, "no element", a, api.ErrArg, func() api.Errno { return a.Words(x, "w") })
		refused(t, "no element and no words", a, api.ErrArg, func() api.Errno { return a.Words(x, "") })
	}
	for _, x := range []int{0, 1, n} {
		refused(t, "no words", a, api.ErrArg, func() api.Errno { return a.Words(x, "") })
	}
	ok(t, "Words", a.Words(1, "a"))
	ok(t, "Words", a.Words(0, "\x00\xff"))
	ok(t, "Words", a.Words(0, " b"))
	ok(t, "Words", a.Words(1, "<&"))
	ok(t, "Words", a.Words(n, "w"))
	is(t, "words", a, "p(\"a<&\")!c!\"\x00\xff b\"")
	if a.Len() != 7 {
		t.Errorf("Len: %d", a.Len())
	}
	refused(t, "a text as parent", a, api.ErrArg, func() api.Errno { return a.Words(4, "w") })
	ok(t, "Before", a.Before(2, n))
	is(t, "a loose one's", a, "p(\"a<&\")x:2(\"w\")!c!\"\x00\xff b\"")
}

// Promise 11.2: WordsBefore: behind a text just ahead, or a new one; a text that stands behind that place is another one.
func TestWordsBefore(t *testing.T) {
	a := grown(t, `p("a"b"z")!c!`) // p 1, a 2, b 3, z 4, c 5
	u, _ := a.Element(api.HTML, "u", nil)
	for _, x := range noNodes(a.Len()) {
		refused(t, "no node", a, api.ErrArg, func() api.Errno { return a.WordsBefore(x, "w") })
	}
	for _, x := range []int{0, u, 1, 2} {
		refused(t, "no words", a, api.ErrArg, func() api.Errno { return a.WordsBefore(x, "") })
	}
	refused(t, "the root", a, api.ErrState, func() api.Errno { return a.WordsBefore(0, "w") })
	refused(t, "loose", a, api.ErrState, func() api.Errno { return a.WordsBefore(u, "w") })
	for _, c := range []struct {
		next int
		s    string
		want string
		n    int
	}{
		{3, "1", `p("a1"b"z")!c!`, 7},
		{3, "2", `p("a12"b"z")!c!`, 7},
		{4, "3", `p("a12"b"3z")!c!`, 8},
		{4, "4", `p("a12"b"34z")!c!`, 8},
		{1, "5", `"5"p("a12"b"34z")!c!`, 9},
		{1, "6", `"56"p("a12"b"34z")!c!`, 9},
		{5, "7", `"56"p("a12"b"34z")"7"!c!`, 10},
		{2, "8", `"56"p("8a12"b"34z")"7"!c!`, 11},
	} {
		ok(t, c.s, a.WordsBefore(c.next, c.s))
		is(t, c.s, a, c.want)
		if a.Len() != c.n {
			t.Errorf("%s: Len: %d", c.s, a.Len())
		}
	}
}

// Promise 11.3: Parent and Kids, of what is no node too.
func TestParentKids(t *testing.T) {
	a := grown(t, `p("a"b(i))!c!`)
	for id, want := range []struct {
		parent int
		has    bool
		kids   []int
	}{{0, false, []int{1, 5}}, {0, true, []int{2, 3}}, {1, true, nil}, {1, true, []int{4}}, {3, true, nil}, {0, true, nil}} {
		p, has := a.Parent(id)
		if l := a.Kids(id); p != want.parent || has != want.has || !slices.Equal(l, want.kids) {
			t.Errorf("%d: %d, %v, %v", id, p, has, l)
		}
	}
	for _, x := range noNodes(a.Len()) {
		p, has := a.Parent(x)
		if l := a.Kids(x); p != 0 || has || len(l) != 0 {
			t.Errorf("%d: %d, %v, %v", x, p, has, l)
		}
	}
}

// Promise 11.3: as deep and as long as an arena may be.
func TestTreeGreat(t *testing.T) {
	deep, wide := New(), New()
	for i := range Most - 1 {
		id, err := deep.Element(api.HTML, "p", nil)
		ok(t, "deep", err)
		ok(t, "deep", deep.Append(i, id))
		id, err = wide.Comment("c")
		ok(t, "wide", err)
		ok(t, "wide", wide.Append(0, id))
	}
	is(t, "deep", deep, strings.Repeat("p(", Most-2)+"p"+strings.Repeat(")", Most-2))
	is(t, "wide", wide, strings.Repeat("!c!", Most-1))
	ok(t, "Detach", deep.Detach(1))
	refused(t, "below all", deep, api.ErrState, func() api.Errno { return deep.Append(Most-1, 1) })
	refused(t, "ahead of the last", deep, api.ErrState, func() api.Errno { return deep.Before(Most-1, 1) })
	refused(t, "given to the last", deep, api.ErrState, func() api.Errno { return deep.Give(1, Most-1) })
}

// Words that are put behind others many times end in time.
func TestManyWords(t *testing.T) {
	a := New()
	const n = 1 << 20
	for range n {
		ok(t, "Words", a.Words(0, "a"))
	}
	if l := a.Tree(); len(l) != 1 || l[0].Text != strings.Repeat("a", n) {
		t.Error("many words")
	}
}

// A nil arena has no nodes.
func TestNil(t *testing.T) {
	var a *Arena
	for _, x := range []int{-1, 0, 1, 600, math.MaxInt} {
		for _, y := range []int{-1, 0, 1} {
			if a.Append(x, y) != api.ErrArg || a.Before(x, y) != api.ErrArg || a.Give(x, y) != api.ErrArg {
				t.Error("Append, Before, Give")
			}
		}
		if a.Detach(x) != api.ErrArg || a.Words(x, "w") != api.ErrArg || a.Words(x, "") != api.ErrArg || a.WordsBefore(x, "w") != api.ErrArg || a.WordsBefore(x, "") != api.ErrArg {
			t.Error("Detach, Words, WordsBefore")
		}
		if p, has := a.Parent(x); p != 0 || has || len(a.Kids(x)) != 0 {
			t.Error("Parent, Kids")
		}
	}
	if id, err := a.Element(api.HTML, "p", nil); id != 0 || err != api.ErrState {
		t.Errorf("Element: %d, %v", id, err)
	}
	if id, err := a.Comment("c"); id != 0 || err != api.ErrState {
		t.Errorf("Comment: %d, %v", id, err)
	}
	if a.Len() != 0 || len(a.Tree()) != 0 {
		t.Errorf("Len: %d", a.Len())
	}
}

// Rule R3: attributes that were handed in are not kept, nor changed, spare room too.
func TestHandedIn(t *testing.T) {
	attrs := []api.Attr{{Name: "a", Value: "b"}, {Name: "c", Value: "d"}, {Name: "junk"}}[:2]
	a := New()
	id, _ := a.Element(api.HTML, "p", attrs)
	ok(t, "Append", a.Append(0, id))
	a.Tree()
	if attrs[:3][2].Name != "junk" {
		t.Error("spare room was changed")
	}
	attrs[0] = api.Attr{Name: "x"}
	is(t, "kept", a, "p a=b c=d")
}

// Rule R3: what is handed out is new, spare room too, and no two lists of it share any.
func TestHandedOut(t *testing.T) {
	a := New()
	for range 5 {
		id, _ := a.Element(api.HTML, "p", []api.Attr{{Name: "a", Value: "b"}})
		ok(t, "Append", a.Append(max(id-3, 0), id))
		ok(t, "Words", a.Words(id, "w"))
		id, _ = a.Comment("c")
		ok(t, "Append", a.Append(0, id))
	}
	before := whole(a)
	for id := range a.Len() {
		l := a.Kids(id)
		l = l[:cap(l)]
		for i := range l {
			l[i] = -7
		}
		if after := whole(a); after != before {
			t.Fatalf("Kids(%d) is kept: %s; was %s", id, after, before)
		}
	}
	l := a.Tree()
	want := told(l)
	grow(l)
	if got := told(l); got != want {
		t.Fatalf("lists of one answer share memory: %s; want %s", got, want)
	}
	spoil(l)
	if after := whole(a); after != before {
		t.Fatalf("Tree is kept: %s; was %s", after, before)
	}
}

// grow writes into the spare room of all lists.
func grow(l []api.Node) {
	for i := range l {
		grow(l[i].Kids)
		x := l[i].Attrs[len(l[i].Attrs):cap(l[i].Attrs)]
		for j := range x {
			x[j] = api.Attr{Name: "junk"}
		}
	}
	for i, x := 0, l[len(l):cap(l)]; i < len(x); i++ {
		x[i] = api.Node{Kind: api.Element, Name: "junk"}
	}
}

// spoil writes into all lists.
func spoil(l []api.Node) {
	for i := range l {
		spoil(l[i].Kids)
		for j := range l[i].Attrs {
			l[i].Attrs[j] = api.Attr{Name: "junk"}
		}
		l[i] = api.Node{Kind: api.Element, Name: "junk"}
	}
	grow(l)
}
