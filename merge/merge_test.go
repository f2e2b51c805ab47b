package merge

import (
	"math/rand"
	"slices"
	"testing"

	"recto/api"
	"recto/build"
	"recto/print"
	"recto/tree"
)

// The document's examples.
func TestExample(t *testing.T) {
	r := Three(list(p("a")), list(p("b")), list(p("c")))
	if s := show(r.Nodes); s != "p(section[class=clash](section[class=ours]('b')section[class=theirs]('c')))" || r.Clashes != 1 {
		t.Errorf("another word each: %s, %d", s, r.Clashes)
	}
	r = Three(list(p("a")), list(p("a"), p("b")), list(p("c")))
	if s := show(r.Nodes); s != "p('c')p('b')" || r.Clashes != 0 {
		t.Errorf("one more p, and another word: %s, %d", s, r.Clashes)
	}
	for _, x := range []struct {
		o, a, b, want string
		clashes       int
	}{
		{"<p>one<p>two", "<p>1<p>two", "<p>one<p>2", "<p>1</p><p>2</p>", 0},
		{"<p>one", "<p>1", "<p>eins", `<p><section class="clash"><section class="ours">1</section><section class="theirs">eins</section></section></p>`, 1},
	} {
		r := Three(read(t, x.o), read(t, x.a), read(t, x.b))
		if s := print.Text(r.Nodes); s != x.want || r.Clashes != x.clashes {
			t.Errorf("Three(%s, %s, %s): %s, %d; want %s, %d", x.o, x.a, x.b, s, r.Clashes, x.want, x.clashes)
		}
	}
}

func read(t *testing.T, s string) []api.Node {
	t.Helper()
	l, e := build.Ready(s)
	if e != api.OK {
		t.Fatalf("%q: %v", s, e)
	}
	return l
}

// hold asks for what the chapter tells of three pages: 26.1; 26.3 of each two of them; 26.4; 26.5.
func hold(t *testing.T, o, a, b []api.Node) {
	t.Helper()
	r := Three(o, a, b)
	want, clashes := plainThree(o, a, b)
	if !same(r.Nodes, want) || r.Clashes != clashes {
		t.Fatalf("Three(%s, %s, %s): %s, %d; want %s, %d", show(o), show(a), show(b), show(r.Nodes), r.Clashes, show(want), clashes)
	}
	other := Three(o, b, a)
	if other.Clashes != r.Clashes {
		t.Fatalf("Three(%s, %s, %s): %d marks; of the other way round %d", show(o), show(a), show(b), r.Clashes, other.Clashes)
	}
	if plainMarks(o)+plainMarks(a)+plainMarks(b) == 0 {
		if !same(other.Nodes, turned(r.Nodes)) {
			t.Fatalf("Three(%s, %s, %s): %s; of the other way round %s", show(o), show(a), show(b), show(r.Nodes), show(other.Nodes))
		}
		if n := Marks(r.Nodes); n != r.Clashes {
			t.Fatalf("Three(%s, %s, %s): %s: %d marks; counted %d", show(o), show(a), show(b), show(r.Nodes), n, r.Clashes)
		}
	}
	holdSides(t, o, a)
	holdSides(t, o, b)
	holdMarks(t, r.Nodes)
}

// holdSides asks for 26.3 of two pages.
func holdSides(t *testing.T, o, x []api.Node) {
	t.Helper()
	for _, c := range [][3][]api.Node{{o, o, x}, {o, x, o}, {o, x, x}} {
		r := Three(c[0], c[1], c[2])
		if r.Clashes != 0 || !asides(o) && !asides(x) && !same(r.Nodes, x) {
			t.Fatalf("Three(%s, %s, %s): %s, %d; want %s", show(c[0]), show(c[1]), show(c[2]), show(r.Nodes), r.Clashes, show(x))
		}
	}
}

// holdMarks asks for what the chapter tells of a page's marks: 26.1, 26.2.
func holdMarks(t *testing.T, l []api.Node) {
	t.Helper()
	if n := Marks(l); n != plainMarks(l) {
		t.Fatalf("Marks(%s): %d; want %d", show(l), n, plainMarks(l))
	}
	for side, theirs := range []bool{false, true} {
		if got, want := Pick(l, theirs), plainPick(l, side); !same(got, want) {
			t.Fatalf("Pick(%s, %v): %s; want %s", show(l), theirs, show(got), show(want))
		}
	}
	holdIsMark(t, l)
}

func holdIsMark(t *testing.T, l []api.Node) {
	t.Helper()
	for _, n := range l {
		if IsMark(n) != plainIsMark(n) {
			t.Fatalf("IsMark(%s): %v", show(list(n)), IsMark(n))
		}
		holdIsMark(t, n.Kids)
	}
}

// pages are three pages, and what they are merged, told by hand.
type pages struct {
	what    string
	o, a, b []api.Node
	want    []api.Node
	clashes int
}

func holdPages(t *testing.T, all []pages) {
	t.Helper()
	for _, x := range all {
		r := Three(x.o, x.a, x.b)
		if !same(r.Nodes, x.want) || r.Clashes != x.clashes {
			t.Errorf("%s: %s, %d; want %s, %d", x.what, show(r.Nodes), r.Clashes, show(x.want), x.clashes)
		}
		hold(t, x.o, x.a, x.b)
	}
}

// Promises 26.1, 26.3 to 26.5: lists, part by part.
func TestParts(t *testing.T) {
	i, b, u := elem("i"), elem("b"), elem("u")
	one, two := elem("q"), elem("s")
	holdPages(t, []pages{
		{"nothing", nil, nil, nil, nil, 0},
		{"ours alone", nil, list(i), nil, list(i), 0},
		{"theirs alone", nil, nil, list(i), list(i), 0},
		{"what there was alone", list(i), nil, nil, nil, 0},
		{"all three the same", list(p("1"), i, note("x")), list(p("1"), i, note("x")), list(p("1"), i, note("x")), list(p("1"), i, note("x")), 0},
		{"ours as there was", list(i, p("1")), list(i, p("1")), list(b, p("2"), note("")), list(b, p("2"), note("")), 0},
		{"theirs as there was", list(i, p("1")), list(b, p("2"), note("")), list(i, p("1")), list(b, p("2"), note("")), 0},
		{"both changed alike", list(i), list(b, u), list(b, u), list(b, u), 0},
		{"both changed unlike", list(i), list(b, u), list(two), list(clash(list(b, u), list(two))), 1},
		{"ours gone, theirs changed", list(i), nil, list(b), list(clash(nil, list(b))), 1},
		{"ours changed, theirs gone", list(i), list(b), nil, list(clash(list(b), nil)), 1},
		{"both new, unlike", nil, list(i), list(b), list(clash(list(i), list(b))), 1},
		{"both new, alike but not the same", nil, list(p("1")), list(p("2")), list(clash(list(p("1")), list(p("2")))), 1},
		// Ahead of the first triple, between two, and behind the last one.
		{"new ones ahead", list(i), list(one, i), list(two, i), list(clash(list(one), list(two)), i), 1},
		{"new ones between", list(i, b), list(i, one, b), list(i, two, b), list(i, clash(list(one), list(two)), b), 1},
		{"new ones behind", list(i), list(i, one), list(i, two), list(i, clash(list(one), list(two))), 1},
		{"all three", list(i, b), list(one, i, one, b, one), list(two, i, two, b, two), list(clash(list(one), list(two)), i, clash(list(one), list(two)), b, clash(list(one), list(two))), 3},
		{"each side at places of its own", list(i, b, u), list(one, i, b, u), list(i, two, b, u), list(one, i, two, b, u), 0},
		{"one puts in, one takes out", list(i, b, u), list(i, b, one, u), list(b, u), list(b, one, u), 0},
		{"the same new one besides", list(i), list(i, one), list(one, i, one), list(one, i, one), 0},
		// In a pair of one alone.
		{"gone of theirs, ours as it was", list(i, b), list(i, b), list(b), list(b), 0},
		{"gone of ours, theirs as it was", list(i, b), list(b), list(i, b), list(b), 0},
		{"gone of theirs, changed of ours", list(p("1"), i), list(p("2"), i), list(i), list(clash(list(p("2")), nil), i), 1},
		{"gone of ours, changed of theirs", list(p("1"), i), list(i), list(p("2"), i), list(clash(nil, list(p("2"))), i), 1},
	})
}

// Promises 26.1, 26.3 to 26.5: nodes that are a pair, but not whole.
func TestKept(t *testing.T) {
	x, y, z := with(p("1"), "a", "x"), with(p("1"), "a", "y"), with(p("1"), "a", "z")
	svg := in(api.SVG, elem("g"))
	holdPages(t, []pages{
		{"Attrs of ours", list(x), list(y), list(x), list(y), 0},
		{"Attrs of theirs", list(x), list(x), list(y), list(y), 0},
		{"Attrs of both alike", list(x), list(y), list(y), list(y), 0},
		{"Attrs of both unlike", list(x), list(y), list(z), list(clash(list(y), list(z))), 1},
		{"Attrs that come", list(p("1")), list(p("1")), list(x), list(x), 0},
		{"Attrs that go, and others", list(x), list(p("1")), list(y), list(clash(list(p("1")), list(y))), 1},
		{"Attrs in another order", list(with(x, "b", "1")), list(with(p("1"), "b", "1", "a", "x")), list(with(x, "b", "1")), list(with(p("1"), "b", "1", "a", "x")), 0},
		{"Attrs in another order, and others", list(with(x, "b", "1")), list(with(p("1"), "b", "1", "a", "x")), list(with(y, "b", "1")), list(clash(list(with(p("1"), "b", "1", "a", "x")), list(with(y, "b", "1")))), 1},
		{"other Attrs are no one's to be joined", list(p("1")), list(with(p("1"), "a", "")), list(with(p("1"), "b", "")), list(clash(list(with(p("1"), "a", "")), list(with(p("1"), "b", "")))), 1},
		// With Kids besides.
		{"Attrs of ours, Kids of theirs", list(x), list(y), list(holding(x, text("2"))), list(holding(y, text("2"))), 0},
		{"Attrs of theirs, Kids of ours", list(x), list(holding(x, text("2"))), list(y), list(holding(y, text("2"))), 0},
		{"Attrs of both alike, Kids of both unlike", list(x), list(holding(y, text("2"))), list(holding(y, text("3"))), list(holding(y, clash(list(text("2")), list(text("3"))))), 1},
		{"Attrs of both unlike, Kids of one", list(x), list(holding(y, text("2"))), list(z), list(clash(list(holding(y, text("2"))), list(z))), 1},
		{"Attrs of both unlike, Kids of both unlike", list(x), list(holding(y, text("2"))), list(holding(z, text("3"))), list(clash(list(holding(y, text("2"))), list(holding(z, text("3"))))), 1},
		{"Attrs of both unlike, ahead of others", list(x, svg), list(y, svg), list(z, svg, note("")), list(clash(list(y), list(z)), svg, note("")), 1},
		// Texts.
		{"Text of ours", list(text("1")), list(text("2")), list(text("1")), list(text("2")), 0},
		{"Text of theirs", list(text("1")), list(text("1")), list(text("2")), list(text("2")), 0},
		{"Text of both alike", list(text("1")), list(text("2")), list(text("2")), list(text("2")), 0},
		{"Text of both unlike", list(text("1")), list(text("2")), list(text("3")), list(clash(list(text("2")), list(text("3")))), 1},
		{"a comment of both alike", list(note("1")), list(note("2")), list(note("2")), list(note("2")), 0},
		{"a comment of both unlike", list(note("1")), list(note("")), list(note("3")), list(clash(list(note("")), list(note("3")))), 1},
		// What a node is stays, and its Kids are merged at any depth.
		{"in SVG", list(svg), list(with(svg, "a", "b")), list(holding(svg, svg)), list(holding(with(svg, "a", "b"), svg)), 0},
		{"Kids of both", list(elem("ul", elem("li"))), list(elem("ul", elem("li"), elem("b"))), list(elem("ul", elem("i"), elem("li"))), list(elem("ul", elem("i"), elem("li"), elem("b"))), 0},
		{"deep", deep(9, elem("i"), elem("u")), deep(9, elem("i", p("1")), elem("u")), deep(9, elem("i"), elem("u", p("2"))), deep(9, elem("i", p("1")), elem("u", p("2"))), 0},
		{"deep, both unlike", deep(9, text("1")), deep(9, text("2")), deep(9, text("3")), deep(9, clash(list(text("2")), list(text("3")))), 1},
		{"several", list(p("1"), elem("ul", p("1"), elem("i"), p("2")), text("a")), list(p("2"), elem("ul", p("3"), elem("i"), p("2")), text("b")), list(p("3"), elem("ul", p("4"), elem("i"), p("5")), text("c")),
			list(elem("p", clash(list(text("2")), list(text("3")))), elem("ul", elem("p", clash(list(text("3")), list(text("4")))), elem("i"), p("5")), clash(list(text("b")), list(text("c")))), 3},
	})
}

// Promise 26.1: what both sides bring is the same just if it is so in all that it has, at any depth.
func TestNearlyTheSame(t *testing.T) {
	i, k := elem("i"), elem("k")
	spoken := saying(elem("a"), "b")
	for what, x := range map[string][2]api.Node{
		"a Kind":             {kind(5), kind(6)},
		"a text, a comment":  {text("a"), note("a")},
		"a space":            {i, in(api.SVG, i)},
		"a name":             {i, k},
		"a Text":             {text("a"), text("b")},
		"an empty Text":      {i, saying(i, "x")},
		"an attribute":       {i, with(i, "a", "b")},
		"an attribute's":     {with(i, "a", "b"), with(i, "a", "c")},
		"another one's":      {with(i, "a", "b"), with(i, "c", "b")},
		"their order":        {with(i, "a", "1", "b", "2"), with(i, "b", "2", "a", "1")},
		"kids":               {elem("i", k), i},
		"kids' order":        {elem("i", k, i), elem("i", i, k)},
		"how many kids":      {elem("i", k), elem("i", k, k)},
		"where kids are":     {elem("i", elem("p", k), elem("p")), elem("i", elem("p"), elem("p", k))},
		"whose kid it is":    {elem("i", elem("p", k)), elem("i", elem("p"), k)},
		"a name and a Text":  {elem("ab"), spoken},
		"a name and a value": {with(i, "ab", "c"), with(i, "a", "bc")},
		"one or two":         {with(i, "a", "b", "c", "d"), with(i, "a", "bcd")},
		"attributes or kids": {with(i, "", ""), elem("i", k, k)},
		"one more, or kids":  {with(i, "", "", "", ""), with(elem("i", k, k), "", "")},
	} {
		for _, n := range []int{0, 1, 5} {
			a, b := deep(n, x[0]), deep(n, x[1])
			for _, o := range [][]api.Node{nil, list(k), list(k, k)} {
				// Nothing there was is a pair of both: k and what stands for it are no kids of these.
				if r := Three(o, a, b); n > 0 && (r.Clashes != 1 || !same(r.Nodes, list(clash(a, b)))) {
					t.Errorf("%s, %d deep: %s, %d", what, n, show(r.Nodes), r.Clashes)
				}
				if r := Three(o, a, roomy(a)); r.Clashes != 0 || !same(r.Nodes, a) {
					t.Errorf("%s, %d deep, of both: %s, %d", what, n, show(r.Nodes), r.Clashes)
				}
				holdPlain(t, o, a, b)
			}
		}
	}
}

// Promise 26.1: texts side by side are one, in each list that is merged. (Of right pages none come to stand so: TestSomeRight.)
func TestSideBySide(t *testing.T) {
	i, a, b, c := elem("i"), text("a"), text("b"), text("c")
	ours, theirs := text("ours"), text("theirs")
	two := list(text("a"), text("b"))
	holdPages(t, []pages{
		{"in all three", two, two, two, list(text("ab")), 0},
		{"in all three, deep", deep(3, two...), deep(3, two...), deep(3, two...), deep(3, text("ab")), 0},
		{"ours alone", nil, two, nil, list(text("ab")), 0},
		{"theirs alone", nil, nil, two, list(text("ab")), 0},
		{"of both", nil, two, two, list(text("ab")), 0},
		{"in a mark", nil, two, list(text("c"), text("d")), list(clash(list(text("ab")), list(text("cd")))), 1},
		{"what was between is gone of ours", list(a, i, b), list(a, b), list(a, i, b), list(text("ab")), 0},
		{"it is gone of theirs", list(a, i, b), list(a, i, b), list(a, b), list(text("ab")), 0},
		{"it is gone of both", list(a, i, b), list(a, b), list(a, b), list(text("ab")), 0},
		{"each takes one out", list(a, i, b, i, c), list(a, i, b, c), list(a, b, i, c), list(text("abc")), 0},
		{"in a list that was merged", deep(3, a, i, b), deep(3, a, b), deep(3, a, i, c), deep(3, text("ac")), 0},
		{"new ones around what was there", list(b), list(a, b), list(b, c), list(text("abc")), 0},
		// What stands between keeps them apart.
		{"an element between", list(elem("u"), i, elem("b")), list(ours, i, elem("b")), list(elem("u"), i, theirs), list(ours, i, theirs), 0},
		{"a mark between", list(a, i, b), list(a, elem("q"), b), list(a, elem("s"), b), list(a, clash(list(elem("q")), list(elem("s"))), b), 1},
		{"a text and a mark of texts", list(i), list(ours), list(theirs), list(clash(list(ours), list(theirs))), 1},
		{"comments", list(note("a"), i, note("b")), list(note("a"), note("b")), list(note("a"), i, note("b")), list(note("a"), note("b")), 0},
		// What one side brings is as it was there: its Kids are no lists that are merged.
		{"below what theirs brings", nil, nil, list(elem("p", two...)), list(elem("p", two...)), 0},
		{"below what is in a mark", nil, list(i), list(elem("p", two...)), list(clash(list(i), list(elem("p", two...)))), 1},
	})
}

// Promise 26.1: marks that are there are elements as others are, and only those that are made are counted.
func TestMarksWithin(t *testing.T) {
	m := clash(list(text("1")), list(text("2")))
	two := clash(list(text("a"), text("b")), nil)
	holdPages(t, []pages{
		{"one that stays", list(m), list(m), list(m), list(m), 0},
		{"one that comes", nil, list(m), nil, list(m), 0},
		{"one that both have", list(text("a")), list(m), list(m), list(m), 0},
		{"one that goes", list(m), list(text("1")), list(m), list(text("1")), 0},
		{"both went on in one", list(m), list(clash(list(text("3")), list(text("2")))), list(clash(list(text("1")), list(text("4")))), list(clash(list(text("3")), list(text("4")))), 0},
		{"a mark in a side", list(m), list(clash(list(text("3")), list(text("2")))), list(clash(list(text("4")), list(text("2")))), list(clash(list(clash(list(text("3")), list(text("4")))), list(text("2")))), 1},
		{"a mark of marks", nil, list(m), list(clash(list(text("1")), nil)), list(clash(list(m), list(clash(list(text("1")), nil)))), 1},
		{"texts side by side in one", list(two), list(two), list(two), list(clash(list(text("ab")), nil)), 0},
		{"texts side by side in one that comes", nil, list(two), nil, list(two), 0},
		{"a mark made beside one", list(m, p("1")), list(m, p("2")), list(m, p("3")), list(m, elem("p", clash(list(text("2")), list(text("3"))))), 1},
	})
}

// Promise 26.1: what was no mark may become one, when each side takes out what kept it from that. No mark was made, and none is counted.
func TestBecomesAMark(t *testing.T) {
	i, b := elem("i"), elem("b")
	sides := clash(list(text("1")), list(text("2"))).Kids
	of := func(kids ...api.Node) []api.Node { return list(class("clash", kids...)) }
	r := Three(of(i, sides[0], sides[1], b), of(sides[0], sides[1], b), of(i, sides[0], sides[1]))
	if !same(r.Nodes, of(sides...)) || r.Clashes != 0 || Marks(r.Nodes) != 1 {
		t.Errorf("Three: %s, %d", show(r.Nodes), r.Clashes)
	}
}

// Promises 26.1, 26.3 to 26.5: all pages of few nodes.
func TestAllSmall(t *testing.T) {
	for _, all := range [][][]api.Node{
		smalls(2, elem("p"), text("a"), text("b")),
		smalls(2, elem("p"), elem("i"), with(elem("p"), "a", "b")),
		smalls(3, elem("p"), text("a"))[:24],
	} {
		for _, o := range all {
			for _, a := range all {
				for _, b := range all {
					hold(t, o, a, b)
				}
			}
		}
	}
}

// Promises 26.1, 26.3 to 26.5: right pages that have much in common, by chance.
func TestSomeRight(t *testing.T) {
	r := rand.New(rand.NewSource(26))
	made := 0
	for range 3000 {
		o := right(r, 3)
		a, b := tidy(edited(r, o, rightOne)), tidy(edited(r, o, rightOne))
		hold(t, o, a, b)
		x := Three(o, a, b)
		made += x.Clashes
		if asides(x.Nodes) {
			t.Fatalf("Three(%s, %s, %s): %s: texts side by side", show(o), show(a), show(b), show(x.Nodes))
		}
		// Merged the other way round, what was ours is picked as theirs.
		if !same(Pick(x.Nodes, false), Pick(Three(o, b, a).Nodes, true)) {
			t.Fatalf("Three(%s, %s, %s): %s: other sides", show(o), show(a), show(b), show(x.Nodes))
		}
		// What was merged is a page as others are, with marks that are nobody's of these.
		hold(t, a, x.Nodes, b)
	}
	if made < 500 {
		t.Errorf("only %d marks were made", made)
	}
}

// Wrong inputs: nodes that are not right, by chance.
func TestSomeWrong(t *testing.T) {
	r := rand.New(rand.NewSource(261))
	for range 3000 {
		o := wrong(r, 2)
		holdPlain(t, o, edited(r, o, wrongOne), edited(r, o, wrongOne))
	}
}

// holdPlain asks for what the chapter tells of three pages, be they right or not, of which marks may come to stand where none was: 26.1, 26.2, 26.4.
func holdPlain(t *testing.T, o, a, b []api.Node) {
	t.Helper()
	r := Three(o, a, b)
	want, clashes := plainThree(o, a, b)
	if !same(r.Nodes, want) || r.Clashes != clashes || Three(o, b, a).Clashes != clashes {
		t.Fatalf("Three(%s, %s, %s): %s, %d; want %s, %d", show(o), show(a), show(b), show(r.Nodes), r.Clashes, show(want), clashes)
	}
	holdMarks(t, r.Nodes)
	holdMarks(t, o)
}

// Wrong inputs: nodes that are not right, of each sort.
func TestWrong(t *testing.T) {
	all := wrongs()
	for _, o := range all {
		for _, a := range all {
			for _, b := range all {
				holdPlain(t, o, a, b)
			}
		}
		for _, a := range all {
			m := Mark(o, a)
			if !sameNode(m, plainMark(o, a)) || !IsMark(m) {
				t.Fatalf("Mark(%s, %s): %s", show(o), show(a), show(list(m)))
			}
			holdMarks(t, list(m))
		}
	}
}

// Texts that are not right may have Kids: what is merged below them is lost of none.
func TestKidsOfTexts(t *testing.T) {
	under := func(s string, kids ...api.Node) api.Node { return holding(text(s), kids...) }
	i := elem("i")
	holdPages(t, []pages{
		{"Kids of a text", list(under("a", i)), list(under("b", i)), list(under("a", i, elem("b"))), list(under("b", i, elem("b"))), 0},
		{"a mark below a text", list(under("a", text("1"))), list(under("a", text("2"))), list(under("a", text("3"))), list(under("a", clash(list(text("2")), list(text("3"))))), 1},
		{"a mark below one of two texts side by side", list(text("x"), i, under("a", p("1"))), list(text("x"), under("a", p("2"))), list(text("x"), i, under("a", p("3"))), list(under("xa", elem("p", clash(list(text("2")), list(text("3")))))), 1},
		{"Kids of both of two texts", list(under("a", p("1")), i, under("b", p("2"))), list(under("a", p("1")), under("b", p("2"))), list(under("a", p("1")), i, under("b", p("2"))), list(under("ab", p("1"), p("2"))), 0},
		{"texts below two texts", list(under("a", text("1")), i, under("b", text("2"))), list(under("a", text("1")), under("b", text("2"))), list(under("a", text("1")), i, under("b", text("2"))), list(under("ab", text("12"))), 0},
		{"Texts of an element", list(saying(i, "1")), list(saying(i, "2")), list(holding(saying(i, "1"), p("x"))), list(holding(saying(i, "2"), p("x"))), 0},
		{"Texts of an element, both unlike", list(saying(i, "1")), list(saying(i, "2")), list(saying(i, "3")), list(clash(list(saying(i, "2")), list(saying(i, "3")))), 1},
		{"of a Kind that is none", list(kind(7, p("1"))), list(kind(7, p("2"))), list(kind(7, p("1"), i)), list(kind(7, p("2"), i)), 0},
	})
}

// Nodes may lie deeper in one another than calls can: each call ends, and does not take too long.
func TestVeryDeep(t *testing.T) {
	const far = 100000
	o, a, b := deep(far, text("o"), elem("i")), deep(far, text("a"), elem("i")), deep(far, text("b"), elem("i"))
	r := Three(o, a, b)
	if r.Clashes != 1 || Marks(r.Nodes) != 1 || !tree.Same(r.Nodes, deep(far, clash(list(text("a")), list(text("b"))), elem("i"))) {
		t.Errorf("Three: %d clashes, %d marks", r.Clashes, Marks(r.Nodes))
	}
	if !tree.Same(Pick(r.Nodes, false), a) || !tree.Same(Pick(r.Nodes, true), b) {
		t.Errorf("Pick: neither side")
	}
	for _, x := range [][3][]api.Node{{o, o, b}, {o, b, o}, {o, b, b}, {b, b, b}, {nil, nil, b}, {nil, b, b}} {
		if r := Three(x[0], x[1], x[2]); r.Clashes != 0 || !tree.Same(r.Nodes, b) {
			t.Errorf("Three of what one has: %d clashes", r.Clashes)
		}
	}
	m := Mark(a, b)
	if !IsMark(m) || !tree.Same(Pick(list(m), true), b) || Marks(list(m)) != 1 {
		t.Errorf("Mark: %v, %d", IsMark(m), Marks(list(m)))
	}
	marks := o
	for range far {
		marks = list(clash(marks, nil))
	}
	if Marks(marks) != 1 || Marks(marks[0].Kids) != 1 {
		t.Errorf("Marks: %d, %d", Marks(marks), Marks(marks[0].Kids))
	}
	var texts []api.Node
	for range far {
		texts = list(holding(text("a"), texts...))
	}
	m = Mark(slices.Concat(texts, texts), nil)
	if tree.Count(list(m)) != 3+far || !IsMark(m) {
		t.Errorf("Mark of texts in texts: %d nodes", tree.Count(list(m)))
	}
}

// Very many nodes, texts side by side among them.
func TestVeryMany(t *testing.T) {
	const many = 100000
	o := slices.Repeat(list(p("1")), many)
	a := slices.Concat(o, list(p("2")))
	b := slices.Concat(o, list(p("3")))
	if r := Three(o, a, b); r.Clashes != 1 || len(r.Nodes) != many+1 {
		t.Errorf("Three: %d clashes, %d nodes", r.Clashes, len(r.Nodes))
	}
	texts := slices.Repeat(list(text("a")), many)
	if r := Three(texts, texts, texts); r.Clashes != 0 || len(r.Nodes) != 1 || len(r.Nodes[0].Text) != many {
		t.Errorf("Three of texts side by side: %d clashes, %d nodes", r.Clashes, len(r.Nodes))
	}
}

// R3, R6: what is handed in is as it was, and what is handed out is nobody's.
func TestMemory(t *testing.T) {
	m := clash(list(text("1"), with(p("q"), "a", "b")), list(p("2")))
	o := roomy(list(with(p("1"), "a", "x"), elem("ul", p("a"), elem("i"), p("b")), m, text("t"), elem("i"), text("u"), elem("b", text("x"))))
	a := roomy(list(with(p("2"), "a", "x"), elem("ul", with(p("c"), "k", "l"), p("b")), m, text("t"), text("u"), elem("b", text("y"), with(elem("q"), "a", "1"))))
	b := roomy(list(with(p("1"), "a", "y"), elem("ul", p("a"), elem("i"), p("d")), m, text("t"), elem("i"), text("v"), elem("b", text("z")), with(elem("h1", p("h")), "c", "d")))
	was := whole(o) + whole(a) + whole(b)
	for what, do := range map[string]func() []api.Node{
		"Three":                     func() []api.Node { return Three(o, a, b).Nodes },
		"Three, ours as there was":  func() []api.Node { return Three(o, o, b).Nodes },
		"Three, theirs as it was":   func() []api.Node { return Three(o, a, o).Nodes },
		"Three, both the same":      func() []api.Node { return Three(o, b, b).Nodes },
		"Three, all three the same": func() []api.Node { return Three(o, o, o).Nodes },
		"Three, nothing there was":  func() []api.Node { return Three(nil, a, b).Nodes },
		"Mark":                      func() []api.Node { return list(Mark(a, b)) },
		"Mark of one list":          func() []api.Node { return list(Mark(a, a)) },
		"Mark of pieces":            func() []api.Node { return list(Mark(a[:2], a[2:])) },
		"Pick":                      func() []api.Node { return Pick(a, false) },
		"Pick theirs":               func() []api.Node { return Pick(a, true) },
		"Pick of one mark, twice":   func() []api.Node { return Pick(slices.Concat(a, a), false) },
	} {
		l := do()
		want := show(l)
		before := tree.Copy(l)
		widen(l)
		if !same(l, before) {
			t.Errorf("%s: two lists share memory", what)
		}
		spoil(l)
		if whole(o)+whole(a)+whole(b) != was {
			t.Fatalf("%s: what was handed in was changed, or handed out", what)
		}
		if s := show(do()); s != want {
			t.Errorf("%s: %s; then %s", what, want, s)
		}
	}
	holdMarks(t, a)
	if whole(o)+whole(a)+whole(b) != was {
		t.Errorf("what was handed in was changed")
	}
	spare(t)
}

// spare asks that pieces of one list, whose spare room is the rest of it, are handed out by none.
func spare(t *testing.T) {
	t.Helper()
	l := list(text("a"), text("b"), elem("i"), text("c"), text("d"))
	was := whole(l)
	for i := range len(l) + 1 {
		spoil(list(Mark(l[:i], l[i:])))
		spoil(Three(l[:i], l[i:], l[:0]).Nodes)
		spoil(Three(nil, l[:i], l[:i]).Nodes)
		spoil(Pick(l[:i], true))
		if whole(l) != was {
			t.Fatalf("the list of which pieces were handed in was changed: %s", show(l))
		}
	}
}

// R2: a list without an element may be nil or empty.
func TestEmpty(t *testing.T) {
	empty := api.Node{Kind: api.Element, Name: "p", Attrs: []api.Attr{}, Kids: []api.Node{}}
	for _, none := range [][]api.Node{nil, {}} {
		if r := Three(none, none, none); len(r.Nodes) != 0 || r.Clashes != 0 || Marks(none) != 0 || len(Pick(none, true)) != 0 {
			t.Errorf("nothing merged: %v", r)
		}
		if m := Mark(none, none); !IsMark(m) || !sameNode(m, clash(nil, nil)) {
			t.Errorf("Mark of nothing: %s", show(list(m)))
		}
	}
	if r := Three(list(empty), list(elem("p")), list(with(empty, "a", "b"))); show(r.Nodes) != "p[a=b]()" || r.Clashes != 0 {
		t.Errorf("Three: %s, %d", show(r.Nodes), r.Clashes)
	}
	m := clash([]api.Node{}, nil)
	m.Kids[0].Attrs = slices.Clone(m.Kids[0].Attrs)
	if !IsMark(m) {
		t.Errorf("IsMark: a side without Kids")
	}
}
