package merge

import (
	"slices"
	"testing"

	"recto/api"
)

// Promise 26.1: a mark of two lists.
func TestMark(t *testing.T) {
	i := elem("i")
	for _, x := range []struct {
		what string
		a, b []api.Node
		want string
	}{
		{"nothing", nil, nil, ""},
		{"ours alone", list(i), nil, "i()"},
		{"several", list(i, p("1")), nil, "i()p('1')"},
		{"texts side by side", list(text("a"), text("b"), i, text("c"), text("d"), text("e")), nil, "'ab'i()'cde'"},
		{"a text and a comment", list(text("a"), note("b"), text("c")), nil, "'a'<!b>'c'"},
		{"comments", list(note("a"), note("b")), nil, "<!a><!b>"},
	} {
		ours := "section[class=clash](section[class=ours](" + x.want + ")section[class=theirs]('x'))"
		theirs := "section[class=clash](section[class=ours]('x')section[class=theirs](" + x.want + "))"
		other := list(text("x"))
		if s := show(list(Mark(x.a, other))); s != ours {
			t.Errorf("%s, ours: %s; want %s", x.what, s, ours)
		}
		if s := show(list(Mark(other, x.a))); s != theirs {
			t.Errorf("%s, theirs: %s; want %s", x.what, s, theirs)
		}
		if m := Mark(x.a, x.b); !IsMark(m) || m.Space != api.HTML || m.Text != "" || !sameNode(m, plainMark(x.a, x.b)) {
			t.Errorf("%s: %s is no mark", x.what, show(list(m)))
		}
	}
	// A list's end and the other one's beginning are not side by side.
	if s := show(list(Mark(list(text("a")), list(text("b"))))); s != "section[class=clash](section[class=ours]('a')section[class=theirs]('b'))" {
		t.Errorf("Mark of two texts: %s", s)
	}
}

// nearly are elements that are nearly marks, told by what they lack.
func nearly() map[string]api.Node {
	mark := clash(list(text("a")), list(p("b")))
	ours, theirs := mark.Kids[0], mark.Kids[1]
	of := func(kids ...api.Node) api.Node { return holding(mark, kids...) }
	bare := elem("section", ours, theirs)
	all := map[string]api.Node{
		"nothing":                   {},
		"one kid less":              of(ours),
		"the other kid less":        of(theirs),
		"no kids":                   of(),
		"one kid more":              of(ours, theirs, theirs),
		"a text behind":             of(ours, theirs, text("a")),
		"a text ahead":              of(text("a"), ours, theirs),
		"a text between":            of(ours, text(" "), theirs),
		"the other order":           of(theirs, ours),
		"ours twice":                of(ours, ours),
		"theirs twice":              of(theirs, theirs),
		"a text with these kids":    holding(text("a"), ours, theirs),
		"a mark in a div":           elem("div", mark),
		"a mark as ours":            of(mark, theirs),
		"a list of ours, as a text": of(text("a"), theirs),
	}
	for what, n := range changes(mark, bare, "clash") {
		all[what] = n
	}
	for what, n := range changes(ours, elem("section", ours.Kids...), "ours") {
		all[what+", of ours"] = of(n, theirs)
	}
	for what, n := range changes(theirs, elem("section", theirs.Kids...), "theirs") {
		all[what+", of theirs"] = of(ours, n)
	}
	return all
}

// changes are a section of some class in which one thing is another; bare is it without attributes.
func changes(n, bare api.Node, class string) map[string]api.Node {
	named, other := n, n
	named.Name, other.Name = "div", "SECTION"
	none, note, odd := n, n, n
	none.Kind, note.Kind, odd.Kind = 0, api.Comment, 99
	empty := n
	empty.Attrs = []api.Attr{}
	return map[string]api.Node{
		"SVG":                   in(api.SVG, n),
		"Math":                  in(api.Math, n),
		"no space":              in(-1, n),
		"a div":                 named,
		"another name":          other,
		"no Kind":               none,
		"a comment":             note,
		"another Kind":          odd,
		"no attribute":          bare,
		"an empty list of them": empty,
		"another attribute":     with(bare, "id", class),
		"an attribute's case":   with(bare, "Class", class),
		"one attribute more":    with(n, "id", "x"),
		"one ahead":             with(bare, "id", "x", "class", class),
		"the attribute twice":   with(n, "class", class),
		"another class":         with(bare, "class", "x"),
		"the class's case":      with(bare, "class", "C"+class[1:]),
		"one class more":        with(bare, "class", class+" x"),
		"a space":               with(bare, "class", " "+class),
		"an empty class":        with(bare, "class", ""),
		"another one's class":   with(bare, "class", map[string]string{"clash": "ours", "ours": "theirs", "theirs": "clash"}[class]),
		"a Text":                saying(n, "x"),
	}
}

// Promise 26.1: what is a mark, and what is nearly one.
func TestIsMark(t *testing.T) {
	for _, m := range []api.Node{
		clash(nil, nil),
		clash(list(text("a")), nil),
		clash(nil, list(text("a"), note("b"), text("c"))),
		clash(list(clash(nil, nil)), list(clash(nil, nil), clash(nil, nil))),
		clash(list(class("ours"), class("theirs")), list(kind(7), elem(""))),
		clash(list(elem("p", text("a"), elem("i"), text("b")), text("c")), deep(100, text("a"))),
		// Of any two lists, those in which texts stand side by side too.
		clash(list(text("a"), text("b")), nil),
		clash(nil, list(elem("i"), text("a"), text("b"))),
		clash(list(text(""), text("")), list(text("a"), text("a"), text("a"))),
		clash(list(elem("p", text("a"), text("b"))), list(holding(text("a"), text("b")), text("c"))),
	} {
		if !IsMark(m) || !plainIsMark(m) || Marks(list(m)) != 1 {
			t.Errorf("IsMark(%s): %v, %d marks", show(list(m)), IsMark(m), Marks(list(m)))
		}
		holdMarks(t, list(text("x"), m, text("y"), elem("p", m, m)))
	}
	for what, n := range nearly() {
		if IsMark(n) || plainIsMark(n) {
			t.Errorf("IsMark: %s: %s", what, show(list(n)))
		}
		if want := plainMarks(n.Kids); Marks(list(n)) != want {
			t.Errorf("Marks: %s: %d; want %d", what, Marks(list(n)), want)
		}
		if l := Pick(list(n), true); !same(l, plainPick(list(n), 1)) {
			t.Errorf("Pick: %s: %s", what, show(l))
		}
	}
}

// Promise 26.2: how many marks there are, and a page with one side in the place of each.
func TestMarks(t *testing.T) {
	m := clash(list(text("1")), list(p("2"), text("3")))
	in := clash(list(m, elem("i", m)), nil)
	for _, x := range []struct {
		what         string
		l            []api.Node
		marks        int
		ours, theirs string
	}{
		{"nothing", nil, 0, "", ""},
		{"none", list(p("1"), text("a")), 0, "p('1')'a'", "p('1')'a'"},
		{"one", list(m), 1, "'1'", "p('2')'3'"},
		{"one of nothing", list(clash(nil, nil)), 1, "", ""},
		{"one of nothing among others", list(elem("i"), clash(nil, nil), elem("b")), 1, "i()b()", "i()b()"},
		{"two side by side", list(m, m), 2, "'11'", "p('2')'3'p('2')'3'"},
		{"several, at any depth", list(m, elem("p", m, elem("b", m)), deep(30, m)[0], m), 5, "'1'p('1'b('1'))" + show(deep(30, text("1"))) + "'1'", "p('2')'3'p(p('2')'3'b(p('2')'3'))" + show(deep(30, p("2"), text("3"))) + "p('2')'3'"},
		// In marks neither are they counted, nor is a side picked.
		{"marks in a mark", list(in), 1, show(list(m, elem("i", m))), ""},
		{"a mark in each side", list(clash(list(m), list(m, m))), 1, show(list(m)), show(list(m, m))},
		{"a mark in a mark's node, and one beside", list(elem("p", in, m)), 2, "p(" + show(list(m, elem("i", m))) + "'1')", "p(p('2')'3')"},
		// Texts that come to stand side by side.
		{"texts around", list(text("a"), m, text("b")), 1, "'a1b'", "'a'p('2')'3b'"},
		{"texts around nothing", list(text("a"), clash(nil, list(elem("i"))), text("b")), 1, "'ab'", "'a'i()'b'"},
		{"texts of several", list(text("a"), m, m, clash(nil, nil), text("b")), 3, "'a11b'", "'a'p('2')'3'p('2')'3b'"},
		{"texts around, deep", deep(5, text("a"), m, text("b")), 1, show(deep(5, text("a1b"))), show(deep(5, text("a"), p("2"), text("3b")))},
		{"texts side by side in a mark", list(clash(list(text("a"), text("b")), list(text("c"), elem("i"), text("d"), text("e")))), 1, "'ab'", "'c'i()'de'"},
		{"texts side by side in a mark and around", list(text("x"), clash(list(text("a"), text("b")), nil), text("y")), 1, "'xaby'", "'xy'"},
		{"texts side by side that were there", list(text("a"), text("b"), elem("p", text("c"), text("d"))), 0, "'ab'p('cd')", "'ab'p('cd')"},
		// What has no kids of its own by rights.
		{"a mark below a text", list(holding(text("a"), m, m), holding(note("b"), m), kind(7, m)), 4, "'a'('11')<!b>('1')?7\"\"\"\"('1')", "'a'(p('2')'3'p('2')'3')<!b>(p('2')'3')?7\"\"\"\"(p('2')'3')"},
		{"a part of a mark", list(m.Kids[0], m.Kids[1]), 0, show(m.Kids), show(m.Kids)},
		{"marks in what is nearly one", list(class("clash", class("ours", m), class("x", m))), 2, "section[class=clash](section[class=ours]('1')section[class=x]('1'))", "section[class=clash](section[class=ours](p('2')'3')section[class=x](p('2')'3'))"},
	} {
		if n := Marks(x.l); n != x.marks {
			t.Errorf("Marks, %s: %d; want %d", x.what, n, x.marks)
		}
		if s := show(Pick(x.l, false)); s != x.ours {
			t.Errorf("Pick ours, %s: %s; want %s", x.what, s, x.ours)
		}
		if s := show(Pick(x.l, true)); s != x.theirs {
			t.Errorf("Pick theirs, %s: %s; want %s", x.what, s, x.theirs)
		}
		holdMarks(t, x.l)
	}
}

// Promise 26.2: attributes and spaces stay, and all else that a node has.
func TestPickLeavesTheRest(t *testing.T) {
	l := list(with(in(api.SVG, elem("g", note("n"))), "a", "b", "c", "d"), saying(kind(9), "t"), note(""), in(5, text("")))
	for _, theirs := range []bool{false, true} {
		if got := Pick(l, theirs); !same(got, l) {
			t.Errorf("Pick: %s; want %s", show(got), show(l))
		}
	}
}

// Promises 26.1, 26.2: all pages of few nodes of which marks are made.
func TestAllMarks(t *testing.T) {
	heads := []api.Node{class("clash"), class("ours"), class("theirs"), text("a")}
	for _, l := range smalls(4, heads...) {
		holdMarks(t, l)
	}
	// In sections as a mark's, whatever is in them.
	all := smalls(2, heads...)
	for _, a := range all {
		for _, b := range all {
			holdMarks(t, list(clash(a, b), text("b")))
			if m := Mark(a, b); !sameNode(m, plainMark(a, b)) || !IsMark(m) {
				t.Fatalf("Mark(%s, %s): %s", show(a), show(b), show(list(m)))
			}
			if x := slices.Concat(a, b); !same(Pick(list(Mark(x, nil), Mark(nil, x)), false), plainJoin(x)) {
				t.Fatalf("Pick of marks of %s", show(x))
			}
		}
	}
}
