package filter

import (
	"math/rand"
	"slices"
	"strings"
	"testing"

	"recto/api"
	"recto/build"
	"recto/policy"
	"recto/tree"
)

// Promise 17.1: texts with 13 and 0 in them, that are no UTF-8, and that are empty.
func TestTexts(t *testing.T) {
	for s, want := range map[string]string{
		"a":                    "'a'",
		"":                     "",
		"\r":                   "'\n'",
		"\r\n":                 "'\n\n'",
		"a\rb\r\rc\n":          "'a\nb\n\nc\n'",
		"\x00":                 "'\ufffd'",
		"a\x00\x00b":           "'a\ufffd\ufffdb'",
		"\xff":                 "'\ufffd'",
		"a\xc3":                "'a\ufffd'",
		"\xe2\x82":             "'\ufffd\ufffd'",
		"\xe2\x00\xac":         "'\ufffd\ufffd\ufffd'",
		"\xe2\r\xac":           "'\ufffd\n\ufffd'",
		"\xed\xa0\x80":         "'\ufffd\ufffd\ufffd'",
		"\xc0\x80":             "'\ufffd\ufffd'",
		"\ufffd\u20ac\u00a0<&": "'\ufffd\u20ac\u00a0<&'",
		"\x01\t\x7f ":          "'\x01\t\x7f '",
	} {
		hold(t, small(), list(text(s)), want, Lost{})
		hold(t, small(), list(elem("k", text(s))), "k("+want+")", Lost{})
		hold(t, small(), list(elem("y", text(s))), want, Lost{Opened: 1})
		hold(t, small(), list(elem("z", text(s))), "", Lost{Dropped: 1})
	}
	hold(t, small(), nil, "", Lost{})
	hold(t, small(), list(), "", Lost{})
	// Of a text nothing is left but its words, whatever else it has.
	odd := with(below(in(api.SVG, text("a")), elem("x", text("b")), elem("z"), note("c")), "a", "1", "c", "2")
	odd.Name = "x"
	hold(t, small(), list(odd), "'a'", Lost{})
	odd.Text = ""
	hold(t, small(), list(text("1"), odd, text("2")), "'12'", Lost{})
}

// Promise 17.1: texts that come to stand side by side are one; others are not.
func TestSideBySide(t *testing.T) {
	a, b := text("a"), text("b")
	p := small()
	hold(t, p, list(a, b), "'ab'", Lost{})
	hold(t, p, list(a, text(""), b, text(""), text("c")), "'abc'", Lost{})
	hold(t, p, list(text(""), text("")), "", Lost{})
	hold(t, p, list(a, elem("z", text("n")), b), "'ab'", Lost{Dropped: 1})
	hold(t, p, list(a, elem("y"), b), "'ab'", Lost{Opened: 1})
	hold(t, p, list(a, elem("y", text("m")), b), "'amb'", Lost{Opened: 1})
	hold(t, p, list(a, elem("y", elem("w", text("m"), elem("z")), text("n")), b), "'amnb'", Lost{Opened: 2, Dropped: 1})
	hold(t, p, list(a, note("n"), b), "'ab'", Lost{Others: 1})
	hold(t, p, list(a, api.Node{Kind: 9}, b), "'ab'", Lost{Others: 1})
	hold(t, p, list(elem("y", a), elem("y", b)), "'ab'", Lost{Opened: 2})
	hold(t, p, list(a, elem("y", b, elem("k"), a), b), "'ab'k()'ab'", Lost{Opened: 1})
	hold(t, p, list(a, elem("k"), b), "'a'k()'b'", Lost{})
	hold(t, p, list(a, elem("k", b), a), "'a'k('b')'a'", Lost{})
	hold(t, p, list(a, elem("br", b), a), "'a'br()'a'", Lost{})
	hold(t, p, list(elem("k", a, note("n"), b), a), "k('ab')'a'", Lost{Others: 1})
	// Each one is made right by itself: halves of a character don't make one.
	hold(t, p, list(text("\xc3"), text("\xa9")), "'\ufffd\ufffd'", Lost{})
	hold(t, p, list(text("\xe2\x82"), elem("y", text("\xac"))), "'\ufffd\ufffd\ufffd'", Lost{Opened: 1})
	hold(t, p, list(text("\r"), text("\n")), "'\n\n'", Lost{})
}

// Promise 17.1: elements that are kept, opened and dropped, in one another.
func TestElements(t *testing.T) {
	p := small()
	hold(t, p, list(elem("x")), "x()", Lost{})
	hold(t, p, list(elem("y")), "", Lost{Opened: 1})
	hold(t, p, list(elem("z")), "", Lost{Dropped: 1})
	hold(t, p, list(elem("w", elem("x"))), "x()", Lost{Opened: 1})
	hold(t, other(), list(elem("w", elem("x"))), "", Lost{Dropped: 1})
	hold(t, p, list(elem(""), elem("X", elem("k"))), "k()", Lost{Opened: 2})
	for outer, o := range map[string]struct {
		before, behind string
		lost           Lost
		gone           bool
	}{"x": {"x(", ")", Lost{}, false}, "y": {"", "", Lost{Opened: 1}, false}, "z": {"", "", Lost{Dropped: 1}, true}} {
		for inner, i := range map[string]struct {
			left string
			lost Lost
		}{"x": {"x('a')'b'", Lost{}}, "y": {"'ab'", Lost{Opened: 1}}, "z": {"'b'", Lost{Dropped: 1}}} {
			want, lost := o.before+i.left+o.behind, o.lost
			if o.gone {
				want = ""
			} else {
				lost.Opened, lost.Dropped = lost.Opened+i.lost.Opened, lost.Dropped+i.lost.Dropped
			}
			hold(t, p, list(elem(outer, elem(inner, text("a")), text("b"))), want, lost)
		}
	}
	hold(t, p, list(elem("x", elem("y", elem("k", elem("y", elem("x", text("1"))), text("2")), elem("k")), elem("x")), elem("k")), "x(k(x('1')'2')k()x())k()", Lost{Opened: 2})
}

// The document's examples.
func TestExamples(t *testing.T) {
	hold(t, policy.Plain(), list(elem("p", elem("script"), elem("font", elem("b")))), "p(b())", Lost{Dropped: 1, Opened: 1})
	hold(t, policy.Plain(), list(with(elem("a", text("y")), "href", "javascript:x")), "a('y')", Lost{Attrs: 1})
}

// Promise 17.1: elements of SVG and Math, and of other spaces; of HTML, what is kept is.
func TestSpaces(t *testing.T) {
	for _, space := range []int{api.SVG, api.Math, 3, -1, 256, 1 << 32, -1 << 63} {
		for _, name := range []string{"x", "k", "y", "z", "br", "svg", ""} {
			n := in(space, with(elem(name, text("a"), elem("k", text("b")), in(space, elem("x", text("c")))), "a", "1", "q", "2"))
			hold(t, small(), list(text("1"), n, text("2")), "'12'", Lost{Dropped: 1})
			hold(t, other(), list(text("1"), n, text("2")), "'1a'k('b')'c2'", Lost{Opened: 2})
			hold(t, small(), list(elem("x", n)), "x()", Lost{Dropped: 1})
		}
	}
}

// Promise 17.1: an element's Text does not stay.
func TestTextOfElement(t *testing.T) {
	for name, want := range map[string]string{"x": "x('b')", "y": "'b'", "z": "", "br": "br()"} {
		n := elem(name, text("b"))
		n.Text = "t"
		m, e := Nodes(small(), list(n))
		if s := show(m); s != want || e != api.OK {
			t.Errorf("Nodes of %s: %q, %v", name, s, e)
		}
		holdAll(t, small(), list(n))
	}
}

// Promise 17.1: attributes that stay and that don't, and the same Name twice.
func TestAttrs(t *testing.T) {
	for _, c := range []struct {
		attrs []string
		want  string
		lost  int
	}{
		{nil, "", 0},
		{[]string{"a", "1"}, " a=1", 0},
		{[]string{"b", "1", "a", "2"}, " b=1 a=2", 0},
		{[]string{"c", "1"}, "", 1},
		{[]string{"A", "1", "", "2", "\xff", "3"}, "", 3},
		{[]string{"l", "/", "m", "s:x"}, " l=/ m=s:x", 0},
		{[]string{"l", "q:", "m", "q:"}, "", 2},
		{[]string{"a", "q:", "l", "q:"}, " a=q:", 1},
		{[]string{"a", "1", "a", "2"}, " a=1", 1},
		{[]string{"a", "1", "b", "2", "a", "1", "a", "3", "b", "2"}, " a=1 b=2", 3},
		{[]string{"c", "1", "a", "2", "c", "3", "b", "4"}, " a=2 b=4", 2},
		// One that does not stay is no first one of its Name.
		{[]string{"l", "q:", "l", "/"}, " l=/", 1},
		{[]string{"l", "q:", "a", "1", "l", "/", "l", "s:"}, " a=1 l=/", 2},
		{[]string{"l", "/", "l", "q:"}, " l=/", 1},
		// Values are made right as texts are, and asked for as they were.
		{[]string{"a", "\r\n\r", "b", "\x00\xff\xc3"}, " a=\n\n\n b=\ufffd\ufffd\ufffd", 0},
		{[]string{"l", "\x00", "m", "/\xff\r"}, " l=\ufffd m=/\ufffd\n", 0},
		{[]string{"l", "\x00q:x", "m", "q\r:x"}, "", 2},
		{[]string{"l", "q\x00:x", "m", "\xffq:x"}, " l=q\ufffd:x m=\ufffdq:x", 0},
		{[]string{"l", "\rs:x", "m", "\x00s:x"}, " l=\ns:x m=\ufffds:x", 0},
		{[]string{"a", "", "b", ""}, " a= b=", 0},
	} {
		hold(t, small(), list(with(elem("x"), c.attrs...)), "x"+c.want+"()", Lost{Attrs: c.lost})
		hold(t, small(), list(elem("y", with(elem("x", elem("k")), c.attrs...))), "x"+c.want+"(k())", Lost{Opened: 1, Attrs: c.lost})
		// Those of elements that are not kept are not counted.
		hold(t, small(), list(with(elem("y", text("t")), c.attrs...), with(elem("z"), c.attrs...)), "'t'", Lost{Opened: 1, Dropped: 1})
		hold(t, small(), list(with(elem("k"), c.attrs...)), "k()", Lost{Attrs: len(c.attrs) / 2})
	}
}

// Promise 17.1: just MaxAttrs attributes, and more.
func TestMostAttrs(t *testing.T) {
	attrs := func(n int) ([]string, string) {
		var l []string
		want := ""
		for i, name := range slices.Concat(names("a", 20), names("l", 20))[40-n:] {
			l = append(l, name, "v")
			if i < 12 {
				want += " " + name + "=v"
			}
		}
		return l, want
	}
	for _, n := range []int{0, 1, 11, 12, 13, 14, 25, 40} {
		l, want := attrs(n)
		hold(t, wide(), list(with(elem("x"), l...)), "x"+want+"()", Lost{Attrs: max(0, n-12)})
		// What does not stay takes no place.
		gone := []string{"q", "1", "l0", "q:", "q", "2"}
		hold(t, wide(), list(with(elem("x"), append(gone, l...)...)), "x"+want+"()", Lost{Attrs: max(0, n-12) + 3})
		if n > 0 {
			twice := slices.Concat(l[:2], l[:2], l)
			hold(t, wide(), list(with(elem("x"), twice...)), "x"+want+"()", Lost{Attrs: max(0, n-12) + 2})
			behind := append(slices.Clone(l), l[:2]...)
			hold(t, wide(), list(with(elem("x"), behind...)), "x"+want+"()", Lost{Attrs: max(0, n-12) + 1})
		}
	}
}

// Promise 17.1: nothing is left below void elements that are kept, though all of it is counted.
func TestVoid(t *testing.T) {
	kids := list(text("n"), elem("z", elem("z")), elem("y", elem("y")), note("c"), with(elem("x"), "c", "1"), elem("br", elem("z")), elem("k", with(elem("k"), "a", "")))
	lost := Lost{Dropped: 2, Opened: 2, Attrs: 2, Others: 1}
	hold(t, small(), list(elem("br", kids...)), "br()", lost)
	hold(t, small(), list(text("1"), with(elem("br", kids...), "a", "2"), text("3")), "'1'br a=2()'3'", lost)
	hold(t, small(), list(elem("x", elem("br", kids...))), "x(br())", lost)
	hold(t, small(), list(elem("z", elem("br", kids...))), "", Lost{Dropped: 1})
	hold(t, other(), list(elem("img", text("n"), elem("br", text("m")), text("o")), text("p")), "img()'p'", Lost{})
	// One that is opened is not there: its kids are.
	hold(t, other(), list(elem("wbr", text("a"), elem("k"))), "'a'k()", Lost{Opened: 1})
	hold(t, small(), list(elem("input", text("a"), elem("br", text("b")))), "'a'br()", Lost{Opened: 1})
	hold(t, other(), list(elem("hr", text("a"), elem("z"))), "", Lost{Dropped: 1})
	hold(t, other(), list(in(api.SVG, elem("br", text("a")))), "'a'", Lost{Opened: 1})
	for _, name := range []string{"br", "hr", "img", "input", "wbr", "embed", "p"} {
		p := policy.Policy{Rules: []policy.Rule{{Name: name, Act: policy.Keep}}, Others: policy.Open, Strange: policy.Drop}
		want := name + "()"
		if name == "embed" || name == "p" {
			want = name + "('a')"
		}
		hold(t, p, list(elem(name, text("a"))), want, Lost{})
	}
}

// Promise 17.1: of comments and nodes of another Kind nothing is left, nor of their kids, and these are not looked at.
func TestOthers(t *testing.T) {
	for _, kind := range []int{api.Comment, 0, 4, -1, 255, 256, 257, 258, 1 << 32, 1<<32 + 1, 1<<32 + 2, -1 << 63} {
		n := with(api.Node{Kind: kind, Name: "x", Text: "c"}, "a", "1", "c", "2")
		hold(t, small(), list(n), "", Lost{Others: 1})
		hold(t, small(), list(n, elem("x", n, elem("y", n)), n), "x()", Lost{Opened: 1, Others: 4})
		hold(t, small(), list(elem("z", n), elem("br", n)), "br()", Lost{Dropped: 1, Others: 1})
		kids := list(text("a"), elem("x"), elem("y"), elem("z"), note("d"), n)
		hold(t, small(), list(below(n, kids...)), "", Lost{Others: 1})
		hold(t, small(), list(text("1"), elem("k", below(n, kids...)), text("2")), "'1'k()'2'", Lost{Others: 1})
	}
}

// Promise 17.1: of what was dropped nothing within is counted.
func TestWithinDropped(t *testing.T) {
	inner := list(elem("z"), elem("y"), with(elem("x", elem("z")), "c", "1"), note("n"), text("t"), in(api.SVG, elem("svg")))
	hold(t, small(), list(elem("z", inner...)), "", Lost{Dropped: 1})
	hold(t, small(), list(elem("z", elem("x", inner...), elem("y", inner...))), "", Lost{Dropped: 1})
	hold(t, small(), list(in(api.Math, elem("x", inner...))), "", Lost{Dropped: 1})
	hold(t, small(), list(elem("y", inner...)), "x()'t'", Lost{Dropped: 3, Opened: 2, Attrs: 1, Others: 1})
}

// Promise 17.2: all texts of what is left.
func TestWords(t *testing.T) {
	for _, c := range []struct {
		l    []api.Node
		want string
	}{
		{nil, ""},
		{list(text("a"), elem("x", text("b"), elem("k", text("c"))), elem("y", text("d")), text("e")), "abcde"},
		{list(elem("z", text("n")), note("n"), elem("br", text("n")), below(api.Node{Kind: 7, Text: "n"}, text("n"))), ""},
		{list(text("\r\n\x00\xff"), text("\xc3"), text("\xa9")), "\n\n\ufffd\ufffd\ufffd\ufffd"},
		{list(with(elem("x", text("a")), "a", "v"), in(api.SVG, elem("x", text("n")))), "a"},
		{list(below(text("a"), text("n")), api.Node{Kind: api.Element, Name: "x", Text: "n"}), "a"},
	} {
		if s, e := Words(small(), c.l); s != c.want || e != api.OK {
			t.Errorf("Words(%v): %q, %v", c.l, s, e)
		}
		holdAll(t, small(), c.l)
	}
}

// Promises 17.1, 17.2: policies that are not right, handed to each call.
func TestWrongPolicies(t *testing.T) {
	for i, c := range wrong() {
		was := wholePolicy(c.p)
		for _, l := range [][]api.Node{nil, list(text("a")), list(elem("x"), elem("z"), note("c"))} {
			if m, e := Nodes(c.p, l); e != c.e || len(m) != 0 {
				t.Errorf("%d: Nodes: %v, %v; want %v", i, m, e, c.e)
			}
			if n, e := Count(c.p, l); e != c.e || n != (Lost{}) {
				t.Errorf("%d: Count: %v, %v; want %v", i, n, e, c.e)
			}
			if s, e := Words(c.p, l); e != c.e || s != "" {
				t.Errorf("%d: Words: %q, %v; want %v", i, s, e, c.e)
			}
		}
		if wholePolicy(c.p) != was {
			t.Errorf("%d: the policy was changed", i)
		}
	}
}

// Rule R3: what is handed in is as it was, spare room too, and not handed out.
func TestSpareRoom(t *testing.T) {
	roomy := func(l []api.Node) []api.Node {
		l = append(slices.Grow(l, 3), elem("k"))[:len(l)]
		for i := range l {
			l[i].Attrs = append(slices.Grow(l[i].Attrs, 3), api.Attr{Name: "a"})[:len(l[i].Attrs)]
		}
		return l
	}
	p := small()
	p.Rules, p.Schemes = slices.Grow(p.Rules, 9), slices.Grow(p.Schemes, 9)
	for i := range p.Rules {
		p.Rules[i].Attrs, p.Rules[i].Links = slices.Grow(p.Rules[i].Attrs, 9), slices.Grow(p.Rules[i].Links, 9)
	}
	inner := roomy(list(with(elem("x", roomy(list(text("1"), elem("k")))...), "a", "1"), text("2")))
	hold(t, p, roomy(list(with(elem("x", inner...), "a", "1", "b", "2"), elem("k"), elem("y", inner...))), "x a=1 b=2(x a=1('1'k())'2')k()x a=1('1'k())'2'", Lost{Opened: 1})
}

// Promises 17.1 to 17.3: nodes by chance, held against the chapter's telling; 17.5 of two of them.
func TestByChance(t *testing.T) {
	r := rand.New(rand.NewSource(17))
	for _, p := range []policy.Policy{small(), other(), wide(), policy.Plain()} {
		var before []api.Node
		for range 4000 {
			l := some(r, r.Intn(5))
			holdAll(t, p, l)
			holdTwo(t, p, before, l)
			before = l
		}
	}
}

// holdTwo asks that what is left of two lists has the words of both, and that what is lost of them is what is lost of both.
func holdTwo(t *testing.T, p policy.Policy, a, b []api.Node) {
	t.Helper()
	wa, _ := Words(p, a)
	wb, _ := Words(p, b)
	ca, _ := Count(p, a)
	cb, _ := Count(p, b)
	both := slices.Concat(a, b)
	if s, e := Words(p, both); s != wa+wb || e != api.OK {
		t.Fatalf("Words of both: %q, %v; want %q and %q", s, e, wa, wb)
	}
	sum := Lost{ca.Dropped + cb.Dropped, ca.Opened + cb.Opened, ca.Attrs + cb.Attrs, ca.Others + cb.Others}
	if c, e := Count(p, both); c != sum || e != api.OK {
		t.Fatalf("Count of both: %v, %v; want %v", c, e, sum)
	}
	m, _ := Nodes(p, both)
	if s := words(m); s != wa+wb {
		t.Fatalf("the words of what is left of both: %q; want %q and %q", s, wa, wb)
	}
}

// Promise 17.5: texts that come to stand side by side where two lists meet.
func TestTwoLists(t *testing.T) {
	parts := [][]api.Node{nil, list(text("a")), list(text("\xc3")), list(text("\xa9")), list(text("\r")), list(text("\n")), list(text("")), list(elem("y", text("b"))), list(elem("z", text("n"))), list(elem("x", text("c"))), list(note("n"))}
	for _, a := range parts {
		for _, b := range parts {
			holdTwo(t, small(), a, b)
			for _, c := range parts {
				holdTwo(t, small(), slices.Concat(a, b), c)
			}
		}
	}
}

// Promise 17.4: nodes that are right and allowed, with nothing below void elements, stay as they are.
func TestAllowedStay(t *testing.T) {
	r := rand.New(rand.NewSource(174))
	stayed := 0
	for range 60000 {
		l := allowed(r, r.Intn(5))
		if tree.Check(l) != api.OK || !policy.Allows(small(), l) {
			continue
		}
		stayed++
		m, e := Nodes(small(), l)
		if !tree.Same(l, m) || e != api.OK {
			t.Fatalf("Nodes(%q): %q, %v", show(l), show(m), e)
		}
		if c, e := Count(small(), l); c != (Lost{}) || e != api.OK {
			t.Fatalf("Count(%q): %v, %v", show(l), c, e)
		}
		if s, e := Words(small(), l); s != tree.Words(l) || e != api.OK {
			t.Fatalf("Words(%q): %q, %v", show(l), s, e)
		}
	}
	if stayed < 10000 {
		t.Errorf("just %d were right and allowed", stayed)
	}
	l, e := build.Ready("<p>a<b>b</b><br><table><td>c</table><a href=/x title=y>d<img src=z></a><ul><li>e<section class=clash>")
	if e != api.OK || len(l) == 0 {
		t.Fatal(e)
	}
	if m, e := Nodes(policy.Plain(), l); !tree.Same(l, m) || e != api.OK {
		t.Errorf("Nodes(%q): %q, %v", show(l), show(m), e)
	}
}

// allowed are nodes by chance that small allows, most of them right.
func allowed(r *rand.Rand, deep int) []api.Node {
	var l []api.Node
	for range r.Intn(4) {
		n := elem([]string{"x", "k", "br"}[r.Intn(3)])
		switch {
		case r.Intn(3) == 0:
			n = text([]string{"a", "\n", "\ufffd\u20ac<&"}[r.Intn(3)])
		case n.Name == "x" && r.Intn(2) == 0:
			n = with(n, "m", "s:\n", "a", "q:\ufffd")
		case n.Name == "br" && r.Intn(2) == 0:
			n = with(n, "a", "")
		}
		if deep > 0 && n.Kind == api.Element && n.Name != "br" {
			n.Kids = allowed(r, deep-1)
		}
		l = append(l, n)
	}
	return l
}

// Promise 17.1: nodes that lie far deeper, and are far more, than the limits.
func TestGreat(t *testing.T) {
	const deep = 100000
	l := list(text("a"), elem("z"))
	for i := range 3 * deep {
		l = list(elem([]string{"k", "y", "x"}[i%3], l...), text("b"))
	}
	m, e := Nodes(small(), l)
	c, _ := Count(small(), l)
	if tree.Depth(m) != 2*deep || c != (Lost{Dropped: 1, Opened: deep}) || e != api.OK {
		t.Errorf("deep nodes: %d, %v, %v", tree.Depth(m), c, e)
	}
	if s, e := Words(small(), l); s != "a"+strings.Repeat("b", 3*deep) || e != api.OK {
		t.Errorf("the words of deep nodes: %d, %v", len(s), e)
	}
	const many = 200000
	l = slices.Repeat(list(text("a"), elem("y", text("b")), note("c")), many)
	m, e = Nodes(small(), l)
	if len(m) != 1 || m[0].Text != strings.Repeat("ab", many) || e != api.OK {
		t.Errorf("many texts side by side: %d, %v", len(m), e)
	}
	var attrs []string
	for range many {
		attrs = append(attrs, "c", "", "a", "1")
	}
	l = list(with(elem("x"), attrs...))
	if m, e := Nodes(small(), l); show(m) != "x a=1()" || e != api.OK {
		t.Errorf("many attributes: %s, %v", show(m), e)
	}
	if c, e := Count(small(), l); c != (Lost{Attrs: 2*many - 1}) || e != api.OK {
		t.Errorf("many attributes: %v, %v", c, e)
	}
}
