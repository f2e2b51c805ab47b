package match

import (
	"math/rand"
	"slices"
	"strings"
	"testing"

	"recto/api"
)

// The document's example.
func TestExample(t *testing.T) {
	if s := tell(Line(letters("abc"), letters("bxc"))); s != "1-0! 2-2!" {
		t.Errorf("Line: %s", s)
	}
}

// Promise 20.1: lists of texts lined up, told by hand.
func TestLine(t *testing.T) {
	for _, x := range []struct{ a, b, want string }{
		{"", "", ""},
		{"a", "", ""},
		{"", "a", ""},
		{"abc", "", ""},
		{"a", "a", "0-0!"},
		{"a", "b", ""},
		{"abc", "def", ""},
		{"abc", "abc", "0-0! 1-1! 2-2!"},
		{"ab", "ba", "1-0!"},
		{"ba", "ab", "1-0!"},
		{"abca", "caba", "0-1! 1-2! 3-3!"},
		{"abc", "cab", "0-1! 1-2!"},
		{"cab", "abc", "1-0! 2-1!"},
		// The same many times: the first ones that stand at the same place of what is left.
		{"aaa", "a", "0-0!"},
		{"a", "aaa", "0-0!"},
		{"aaa", "aa", "0-0! 1-1!"},
		{"aaaa", "aaaa", "0-0! 1-1! 2-2! 3-3!"},
		// In several ways: it goes on in the first list, as long as as many can be had.
		{"aa", "xa", "1-1!"},
		{"aaa", "xa", "2-1!"},
		{"aaa", "xaa", "1-1! 2-2!"},
		{"xa", "aa", "1-0!"},
		{"xaa", "aaa", "1-0! 2-1!"},
		{"abab", "baba", "1-0! 2-1! 3-2!"},
		{"ab", "xby", "1-1!"},
		{"abxcd", "cdxab", "3-0! 4-1!"},
		{"xay", "bac", "1-1!"},
		{"abcabba", "cbabac", "2-0! 4-1! 5-3! 6-4!"},
		{"abcdefg", "gfedcba", "6-0!"},
	} {
		a, b := letters(x.a), letters(x.b)
		if s := tell(Line(a, b)); s != x.want {
			t.Errorf("Line(%s, %s): %s; want %s (plainly: %s)", x.a, x.b, s, x.want, tell(plainTexts(a, b)))
		}
	}
	if s := tell(Line([]string{"", "ab", "c"}, []string{"a", "bc", "", "c"})); s != "0-2! 2-3!" {
		t.Errorf("Line of texts that are empty and unlike: %s", s)
	}
	if s := tell(Line([]string{"a\x00", "\xff"}, []string{"a", "\ufffd", "a\x00", "\xff"})); s != "0-2! 1-3!" {
		t.Errorf("Line of texts that are no UTF-8: %s", s)
	}
}

// holdLine asks for what the chapter tells of two lists of texts.
func holdLine(t *testing.T, a, b []string) {
	t.Helper()
	wasA, wasB := slices.Clone(a), slices.Clone(b)
	got, want := Line(a, b), plainTexts(a, b)
	if !slices.Equal(got, want) {
		t.Fatalf("Line(%q, %q): %s; want %s", a, b, tell(got), tell(want))
	}
	clear(got[:cap(got)])
	if again := Line(a, b); !slices.Equal(again, want) || !slices.Equal(a, wasA) || !slices.Equal(b, wasB) {
		t.Fatalf("Line(%q, %q), again: %s", wasA, wasB, tell(again))
	}
	last := Pair{A: -1, B: -1}
	for _, p := range want {
		if p.A <= last.A || p.B <= last.B || !p.Whole || a[p.A] != b[p.B] {
			t.Fatalf("Line(%q, %q): %s: a pair that is none", a, b, tell(want))
		}
		last = p
	}
}

// Promises 20.1, 20.3: of all short lists, and by chance of longer ones.
func TestAllShortLines(t *testing.T) {
	all := words(4, "a", "b", "c")
	for _, a := range all {
		for _, b := range all {
			holdLine(t, a, b)
		}
	}
	two := words(6, "a", "b")
	for _, a := range two {
		for _, b := range two {
			holdLine(t, a, b)
		}
	}
	r := rand.New(rand.NewSource(20))
	for range 300 {
		most := 2 + r.Intn(8)
		random := func() []string {
			var l []string
			for range r.Intn(40) {
				l = append(l, string(rune('a'+r.Intn(most))))
			}
			return l
		}
		holdLine(t, random(), random())
	}
}

// Promise 20.1: there are as many pairs as there can be: as many as the longest part of one list that is one of the other.
func TestAsManyAsThereCanBe(t *testing.T) {
	all := words(5, "a", "b", "c")
	r := rand.New(rand.NewSource(201))
	for range 20000 {
		a, b := all[r.Intn(len(all))], all[r.Intn(len(all))]
		most := 0
		for bits := range 1 << len(a) {
			var part []string
			for i, s := range a {
				if bits>>i&1 == 1 {
					part = append(part, s)
				}
			}
			if isPart(part, b) {
				most = max(most, len(part))
			}
		}
		if n := len(Line(a, b)); n != most {
			t.Fatalf("Line(%q, %q): %d pairs; want %d", a, b, n, most)
		}
	}
}

// isPart tells whether all texts of part stand in l, in their order.
func isPart(part, l []string) bool {
	for _, s := range l {
		if len(part) > 0 && part[0] == s {
			part = part[1:]
		}
	}
	return len(part) == 0
}

// Promise 20.1: long lists.
func TestLongLines(t *testing.T) {
	var a, b []string
	for i := range 3000 {
		a = append(a, strings.Repeat("x", i%7)+"a")
		b = append(b, strings.Repeat("x", i%11)+"a")
	}
	last := Pair{A: -1, B: -1}
	all := Line(a, b)
	for _, p := range all {
		if p.A <= last.A || p.B <= last.B || a[p.A] != b[p.B] || !p.Whole {
			t.Fatalf("a pair that is none: %v behind %v", p, last)
		}
		last = p
	}
	if len(all) < 1000 {
		t.Errorf("%d pairs", len(all))
	}
	// The same list is lined up at once, however long.
	same := slices.Repeat(a, 100)
	all = Line(same, same)
	for i, p := range all {
		if p != (Pair{A: i, B: i, Whole: true}) {
			t.Fatalf("pair %d: %v", i, p)
		}
	}
	if len(all) != len(same) {
		t.Errorf("%d pairs of %d texts with themselves", len(all), len(same))
	}
}

// Promise 20.1: lists of nodes, told by hand.
func TestLists(t *testing.T) {
	i, b, x := elem("i"), elem("b"), text("x")
	attr := with(p("1"), "a", "b")
	for _, c := range []struct {
		what string
		a, b []api.Node
		want string
	}{
		{"nothing", nil, nil, ""},
		{"nothing and something", nil, list(i), ""},
		{"something and nothing", list(i), list(), ""},
		{"the same", list(i, b, x), list(i, b, x), "0-0! 1-1! 2-2!"},
		{"alike", list(p("1")), list(p("2")), "0-0"},
		{"unlike", list(i, x), list(b, note("x")), ""},
		{"texts", list(text("1")), list(text("2")), "0-0"},
		{"other attributes", list(p("1")), list(attr), "0-0"},
		{"another order of attributes", list(with(i, "a", "1", "b", "2")), list(with(i, "b", "2", "a", "1")), "0-0"},
		{"another space", list(in(api.SVG, i)), list(i), ""},
		{"a gap ahead", list(p("1"), i), list(p("2"), i), "0-0 1-1!"},
		{"a gap between", list(i, p("1"), b), list(i, p("2"), b), "0-0! 1-1 2-2!"},
		{"a gap behind", list(i, p("1")), list(i, p("2")), "0-0! 1-1"},
		{"all three gaps", list(p("1"), i, p("2"), b, p("3")), list(p("4"), i, p("5"), b, p("6")), "0-0 1-1! 2-2 3-3! 4-4"},
		{"no pair over a gap's end", list(p("1"), i), list(i, p("2")), "1-0!"},
		{"no pair over a gap's begin", list(i, p("1")), list(p("2"), i), "0-1!"},
		{"no pair from gap to gap", list(p("1"), i, elem("u"), b), list(i, p("2"), b, elem("u")), "1-0! 3-2!"},
		// The first fellow takes its place; those ahead of it are behind nobody any more.
		{"the first of several", list(p("1")), list(p("2"), p("3"), p("4")), "0-0"},
		{"the first in a gap, of several", list(i, p("1")), list(p("0"), i, p("2"), p("3")), "0-1! 1-2"},
		{"one behind the other", list(p("1"), p("2")), list(p("3"), p("4"), p("5")), "0-0 1-1"},
		{"more than fellows", list(p("1"), p("2"), p("3")), list(p("4"), p("5")), "0-0 1-1"},
		{"behind a fellow alone", list(p("1"), x), list(text("y"), p("2")), "0-1"},
		{"passed over", list(p("1"), x, p("2")), list(text("y"), p("3"), p("4")), "0-1 2-2"},
		{"alone, and the next one", list(elem("u"), p("1")), list(p("2"), elem("s")), "1-0"},
		{"far ahead", list(p("1"), x, note("1")), list(note("2"), text("y"), p("2")), "0-2"},
		// Whole pairs come first, though fellows that stand nearer are alike.
		{"whole ahead of alike", list(p("1"), p("2")), list(p("0"), p("1"), p("2")), "0-1! 1-2!"},
		{"whole, and what is left", list(p("1"), p("2"), p("3")), list(p("2"), p("0")), "1-0! 2-1"},
		{"the same many times", list(i, i, i), list(i, i), "0-0! 1-1!"},
		{"the same many times, behind another one", list(i, i), list(b, i), "1-1!"},
		{"letters", paragraphs("abca"), paragraphs("caba"), "0-1! 1-2! 3-3!"},
		{"letters and gaps", paragraphs("axbyc"), paragraphs("aubvwc"), "0-0! 1-1 2-2! 3-3 4-5!"},
	} {
		if s := tell(Lists(c.a, c.b)); s != c.want {
			t.Errorf("Lists, %s: %s; want %s (plainly: %s)", c.what, s, c.want, tell(plainLists(c.a, c.b)))
		}
		holdAll(t, c.a, c.b)
	}
}

// Promise 20.2: pages, told by hand.
func TestPages(t *testing.T) {
	x, y, z := text("x"), text("y"), text("z")
	for _, c := range []struct {
		what string
		a, b []api.Node
		want string
	}{
		{"nothing", nil, nil, ""},
		{"nothing and something", nil, list(x), ""},
		{"the same", list(p("1"), x), list(p("1"), x), "0-0! 1-1! 2-2!"},
		{"alike, and what is below", list(p("1")), list(p("2")), "0-0 1-1"},
		{"alike, and unlike below", list(elem("p", x)), list(elem("p", note("x"))), "0-0"},
		{"whole below alike", list(elem("p", x, elem("b", y))), list(elem("p", elem("b", y))), "0-0 2-1! 3-2!"},
		{"whole ones stay one below whole ones", list(elem("p", elem("b", x), elem("b", y)), z), list(x, elem("p", elem("b", x), elem("b", y))), "0-1! 1-2! 2-3! 3-4! 4-5!"},
		{"alike in alike", list(elem("div", elem("p", elem("b", x)))), list(elem("div", elem("p", elem("b", y)))), "0-0 1-1 2-2 3-3"},
		{"alike in alike, whole between", list(elem("div", p("1"), elem("p", elem("b", x), elem("i", z)), p("2"))), list(elem("div", p("1"), elem("p", elem("b", y), elem("i", z)), p("3"))), "0-0 1-1! 2-2! 3-3 4-4 5-5 6-6! 7-7! 8-8 9-9"},
		{"other parents part what is the same", list(elem("p", elem("b", x)), elem("i")), list(elem("i"), elem("b", x)), "3-0!"},
		{"one deeper", list(elem("p", x)), list(elem("div", elem("p", x))), ""},
		{"moved into another one", list(elem("p", x), elem("p")), list(elem("p"), elem("p", x)), "2-0!"},
		{"numbers behind great ones", list(elem("ul", elem("li", x), elem("li", y)), p("1")), list(elem("u"), elem("ul", elem("li", x), elem("li", z)), p("2")), "0-1 1-2! 2-3! 3-4 4-5 5-6 6-7"},
		{"attributes alone", list(with(elem("p", elem("b", x), y), "a", "1")), list(with(elem("p", elem("b", x), y), "a", "2")), "0-0 1-1! 2-2! 3-3!"},
		{"kids of texts", list(kind(api.Text, x, elem("b"))), list(kind(api.Text, y, elem("b"))), "0-0 1-1 2-2!"},
	} {
		if s := tell(Pages(c.a, c.b)); s != c.want {
			t.Errorf("Pages, %s: %s; want %s (plainly: %s)", c.what, s, c.want, tell(plainPages(c.a, c.b, 0, 0)))
		}
		holdAll(t, c.a, c.b)
	}
}

// holdAll asks of all calls what the chapter tells, what follows, and that what was handed in is as it was.
func holdAll(t *testing.T, a, b []api.Node) {
	t.Helper()
	wasA, wasB := whole(a), whole(b)
	wantLists, wantPages := plainLists(a, b), plainPages(a, b, 0, 0)
	for range 2 {
		lists := Lists(a, b)
		if !slices.Equal(lists, wantLists) {
			t.Fatalf("Lists(%s, %s): %s; want %s", show(a), show(b), tell(lists), tell(wantLists))
		}
		all := Pages(a, b)
		if !slices.Equal(all, wantPages) {
			t.Fatalf("Pages(%s, %s): %s; want %s", show(a), show(b), tell(all), tell(wantPages))
		}
		if n := Score(a, b); n != len(wantPages) {
			t.Fatalf("Score(%s, %s): %d; want %d", show(a), show(b), n, len(wantPages))
		}
		holdFollows(t, a, b, all)
		clear(lists[:cap(lists)])
		clear(all[:cap(all)])
	}
	if whole(a) != wasA || whole(b) != wasB {
		t.Fatalf("what was handed in was changed: %s, %s", wasA, wasB)
	}
}

// holdFollows asks that pairs rise in both (20.3), have the same label and are below a pair (20.5), and are whole just if they are told to be.
func holdFollows(t *testing.T, a, b []api.Node, all []Pair) {
	t.Helper()
	allA, parentsA := inRow(a)
	allB, parentsB := inRow(b)
	fellows := map[int]Pair{-1: {A: -1, B: -1}}
	last := Pair{A: -1, B: -1}
	for _, p := range all {
		if p.A <= last.A || p.B <= last.B {
			t.Fatalf("pairs don't rise: %s", tell(all))
		}
		last = p
		n, m := allA[p.A], allB[p.B]
		if !sameLabel(n, m) {
			t.Fatalf("a pair %v without a label in common: %s", p, tell(all))
		}
		parents, is := fellows[parentsA[p.A]]
		if !is || parents.B != parentsB[p.B] {
			t.Fatalf("a pair %v whose parents are none: %s", p, tell(all))
		}
		if p.Whole != sameNode(n, m) || parents.Whole && !p.Whole {
			t.Fatalf("whether the pair %v is whole: %s", p, tell(all))
		}
		fellows[p.A] = p
	}
}

// Promises 20.1 to 20.3, 20.5: of all small pages.
func TestAllSmallPages(t *testing.T) {
	all := smalls(3, elem("p"), text("a"), text("b"))
	for _, a := range all {
		for _, b := range all {
			holdAll(t, a, b)
		}
	}
	r := rand.New(rand.NewSource(202))
	all = smalls(5, elem("p"), elem("b"))
	for range 15000 {
		holdAll(t, all[r.Intn(len(all))], all[r.Intn(len(all))])
	}
}

// Promises 20.1 to 20.3, 20.5: of pages of all sorts with one another, right and wrong.
func TestAllSortsOfPages(t *testing.T) {
	all := pages()
	for _, a := range all {
		for _, b := range all {
			holdAll(t, a, b)
		}
	}
}

// Promises 20.1 to 20.3, 20.5: by chance, of pages and what they become by some changes, with nodes that are not right.
func TestEditedPages(t *testing.T) {
	r := rand.New(rand.NewSource(203))
	for range 250 {
		a := some(r, 3)
		b := edited(r, a)
		holdAll(t, a, b)
		holdAll(t, roomy(b), roomy(a))
		holdAll(t, a, some(r, 2))
	}
}

// Promise 20.4: a page is matched with itself, node by node, all whole.
func TestSamePage(t *testing.T) {
	all := append(pages(), smalls(4, elem("p"), text("a"), kind(0))...)
	for _, a := range all {
		var want []Pair
		for i := range count(a) {
			want = append(want, Pair{A: i, B: i, Whole: true})
		}
		for _, b := range [][]api.Node{a, roomy(a)} {
			if got := Pages(a, b); !slices.Equal(got, want) {
				t.Fatalf("Pages(%s) with itself: %s", show(a), tell(got))
			}
			if got := Lists(a, b); !slices.Equal(got, want[:len(a)]) {
				t.Fatalf("Lists(%s) with itself: %s", show(a), tell(got))
			}
			if n := Score(a, b); n != len(want) {
				t.Fatalf("Score(%s) with itself: %d", show(a), n)
			}
		}
	}
}

// Nodes that would be the same, if what they have were put one behind the other, are no whole pairs.
func TestRunningTogether(t *testing.T) {
	for _, c := range [][2]api.Node{
		{elem("p", text("a"), text("b")), elem("p", text("ab"))},
		{elem("p", elem("b", text("x"), text("y"))), elem("p", elem("b", text("x")), text("y"))},
		{elem("p", elem("b"), elem("b")), elem("p", elem("b", elem("b")))},
		{with(elem("p"), "a", "bc"), with(elem("p"), "ab", "c")},
		{with(elem("p"), "a", "", "b", ""), with(elem("p"), "b", "", "a", "")},
		{elem("p", many(11, elem("b"))...), elem("p", append(many(10, elem("b")), elem("b", elem("b")))...)},
	} {
		if s := tell(Lists(list(c[0]), list(c[1]))); s != "0-0" {
			t.Errorf("Lists(%s, %s): %s", show(c[:1]), show(c[1:]), s)
		}
		if p := Pages(list(c[0]), list(c[1])); len(p) == 0 || p[0].Whole {
			t.Errorf("Pages(%s, %s): %s", show(c[:1]), show(c[1:]), tell(p))
		}
		holdAll(t, c[:1], c[1:])
	}
	if p := Lists(list(elem("pa", text("b"))), list(elem("p", text("ab")))); len(p) != 0 {
		t.Errorf("names that run into what follows: %s", tell(p))
	}
}

// Nodes may lie deeper in one another, and be more, than any right ones.
func TestVeryDeepAndMany(t *testing.T) {
	const n = 1 << 17
	a, b := deep(n, text("a")), deep(n, text("b"))
	all := Pages(a, b)
	for i, p := range all {
		if p != (Pair{A: i, B: i}) {
			t.Fatalf("pair %d: %v", i, p)
		}
	}
	if len(all) != n+1 {
		t.Errorf("%d pairs", len(all))
	}
	if s := Score(a, a); s != n+1 {
		t.Errorf("Score: %d", s)
	}
	if s := tell(Lists(a, b)); s != "0-0" {
		t.Errorf("Lists: %s", s)
	}
	wide := slices.Concat(many(n, p("a")), list(p("b")))
	if s := Score(wide, many(n, p("a"))); s != 2*n {
		t.Errorf("Score: %d", s)
	}
}
