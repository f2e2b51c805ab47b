package tree

import (
	"slices"
	"strings"
	"testing"

	"recto/api"
)

// holdCheck asks for what Check tells.
func holdCheck(t *testing.T, what string, l []api.Node, want api.Errno) {
	t.Helper()
	if e := Check(l); e != want {
		t.Errorf("Check of %s: %v; want %v: %s", what, e, want, show(l))
	}
}

// Promise 8.1: right nodes.
func TestCheckRight(t *testing.T) {
	for _, l := range rights() {
		holdCheck(t, "right nodes", l, api.OK)
	}
	// A text's length is no matter of its being right.
	holdCheck(t, "a long text", list(text(long(api.MaxBytes+1))), api.OK)
	holdCheck(t, "a long value", list(with(elem("p"), attr("a", long(api.MaxBytes+1)))), api.OK)
}

// Promise 8.1: nodes that are not right, wherever they stand.
func TestCheckForm(t *testing.T) {
	all, _ := wrongs()
	for _, l := range all {
		holdCheck(t, "wrong nodes", l, api.ErrForm)
	}
}

// Promise 8.1: more than MaxNodes nodes, also if they are wrong otherwise.
func TestCheckMany(t *testing.T) {
	for _, n := range []api.Node{elem("b"), note(""), text("a"), text(""), kind(0), elem("B")} {
		holdCheck(t, "one too many", many(api.MaxNodes+1, n), api.ErrLong)
		holdCheck(t, "one too many below", list(elem("b", many(api.MaxNodes, n)...)), api.ErrLong)
		holdCheck(t, "one too many in the middle", slices.Concat(many(100, n), list(elem("b", many(100, n)...)), many(100, n)), api.ErrLong)
		holdCheck(t, "far too many", many(100000, n), api.ErrLong)
	}
	// Nodes below texts and comments are nodes, too.
	holdCheck(t, "many below a text", list(kind(api.Text, many(api.MaxNodes, note(""))...)), api.ErrLong)
	holdCheck(t, "many below a comment", list(kind(api.Comment, many(api.MaxNodes, note(""))...)), api.ErrLong)
	holdCheck(t, "as many as may be below a text", list(kind(api.Text, many(api.MaxNodes-1, note(""))...)), api.ErrForm)
	for _, n := range []api.Node{text("a"), text(""), kind(0), elem("B")} {
		holdCheck(t, "as many as may be, but wrong", many(api.MaxNodes, n), api.ErrForm)
	}
}

// Promise 8.1: elements, and nodes of a Kind that is none, more than MaxDepth deep, also if they are wrong otherwise.
func TestCheckDeep(t *testing.T) {
	for _, k := range []int{api.Element, 0, 4, -1, 1 << 40} {
		holdCheck(t, "one too deep", deep(api.MaxDepth, kind(k)), api.ErrLong)
		holdCheck(t, "one too deep, behind others", deep(api.MaxDepth, text("a"), note(""), kind(k)), api.ErrLong)
		holdCheck(t, "one too deep, behind a wrong one", append(list(text("")), deep(api.MaxDepth, kind(k))...), api.ErrLong)
		holdCheck(t, "as deep as may be, but wrong", deep(api.MaxDepth-1, kind(k)), api.ErrForm)
	}
	holdCheck(t, "an element one too deep", deep(api.MaxDepth+1), api.ErrLong)
	holdCheck(t, "elements far too deep", deep(100000), api.ErrLong)
	holdCheck(t, "texts and comments below the deepest", deep(api.MaxDepth, text("a"), note("")), api.OK)
	l := list(kind(0))
	for range api.MaxDepth - 1 {
		l = list(kind(0, l...))
	}
	holdCheck(t, "no Kind, as deep as may be", l, api.ErrForm)
	holdCheck(t, "no Kind, one too deep", list(kind(0, l...)), api.ErrLong)
	// Texts in one another are wrong, but no elements.
	l = list(text("a"))
	for range 100 {
		l = list(kind(api.Text, l...))
	}
	holdCheck(t, "texts in texts", l, api.ErrForm)
	holdCheck(t, "an element one too deep in a text", deep(api.MaxDepth-1, kind(api.Text, elem("b"))), api.ErrLong)
	holdCheck(t, "an element in a text", deep(api.MaxDepth-2, kind(api.Text, elem("b"))), api.ErrForm)
}

// Check ends, whatever it is given: of lists without an end, and of those that share their kids.
func TestCheckEnds(t *testing.T) {
	for _, k := range []int{api.Element, api.Text, api.Comment, 0} {
		l := list(kind(k), kind(k))
		l[0].Kids = l
		holdCheck(t, "a list in itself", l, api.ErrLong)
		if b, e := Bytes(l); b != "" || e != api.ErrLong {
			t.Errorf("Bytes of a list in itself: %d bytes, %v", len(b), e)
		}
		shared := list(kind(k), kind(k))
		for range 39 {
			shared = list(kind(k, shared...), kind(k, shared...))
		}
		holdCheck(t, "2^40 nodes", shared, api.ErrLong)
	}
}

// anyHeads are what nodes may be, right or wrong.
func anyHeads() []api.Node {
	odd := api.Node{Kind: api.Text, Space: 1, Name: "p", Attrs: attrs(1), Text: "c"}
	full := with(elem("p"), attr("a", "b"))
	full.Text = "e"
	return []api.Node{text("a"), text(""), note("d"), note(""), elem("p"), in(api.SVG, elem("p")), with(elem("p"), attr("a", "b")), full, kind(0), odd}
}

// Promises 8.1, 8.2: of all small lists of any nodes.
func TestAnySmallNodes(t *testing.T) {
	for _, l := range smalls(3, anyHeads()...) {
		want := api.ErrForm
		if plainRight(l) {
			want = api.OK
		}
		holdCheck(t, "small nodes", l, want)
		if c := Count(l); c != plainCount(l) {
			t.Errorf("Count: %d; want %d: %v", c, plainCount(l), l)
		}
		if d := Depth(l); d != plainDepth(l, 1) {
			t.Errorf("Depth: %d; want %d: %v", d, plainDepth(l, 1), l)
		}
		if s := Words(l); s != plainWords(l) {
			t.Errorf("Words: %q; want %q: %v", s, plainWords(l), l)
		}
		if c := Copy(l); !plainSame(c, l) || !Same(c, l) {
			t.Errorf("Copy: %v; want %v", c, l)
		}
		b, e := Bytes(l)
		if e != want || want == api.OK && b != plainBytes(l) || want != api.OK && b != "" {
			t.Errorf("Bytes: %q, %v; want %v: %v", b, e, want, l)
		}
	}
}

// Promise 8.1: how many there are, and how deep they lie.
func TestCountDepth(t *testing.T) {
	for _, x := range []struct {
		l            []api.Node
		count, depth int
	}{
		{nil, 0, 0},
		{list(), 0, 0},
		{list(text("a")), 1, 0},
		{list(note(""), note("")), 2, 0},
		{list(elem("p")), 1, 1},
		{list(kind(0)), 1, 1},
		{list(kind(-7, kind(9))), 2, 2},
		{list(elem("p", text("a"), note(""))), 3, 1},
		{list(text("a"), elem("p", elem("b", text("x")), elem("i")), elem("p")), 6, 2},
		{list(text("a"), text("b")), 2, 0},
		{list(kind(api.Text, kind(api.Comment, text("a")))), 3, 0},
		{list(kind(api.Text, elem("p"))), 2, 2},
		{list(kind(api.Comment, kind(api.Text, kind(0)))), 3, 3},
		{many(api.MaxNodes+1, elem("b")), api.MaxNodes + 1, 1},
		{deep(api.MaxDepth), api.MaxDepth, api.MaxDepth},
		{deep(api.MaxDepth+1, text("a")), api.MaxDepth + 2, api.MaxDepth + 1},
		{many(100000, elem("b", text(""))), 200000, 1},
	} {
		if c, d := Count(x.l), Depth(x.l); c != x.count || d != x.depth {
			t.Errorf("Count, Depth: %d, %d; want %d, %d: %s", c, d, x.count, x.depth, show(x.l))
		}
	}
}

// Promise 8.2: all texts, in their order, whatever the nodes are.
func TestWords(t *testing.T) {
	odd := text("b")
	odd.Kids = list(text("c"), elem("p", text("d")))
	comment := note("no")
	comment.Kids = list(text("e"))
	full := elem("p", text("f"))
	full.Text = "no"
	for _, x := range []struct {
		l    []api.Node
		want string
	}{
		{nil, ""},
		{list(note("a"), elem("p")), ""},
		{list(text("a")), "a"},
		{list(text("a"), text("b"), text("")), "ab"},
		{list(elem("p", text("x"), elem("b", text("y"))), note("n"), text("z")), "xyz"},
		{list(text("\x00\r\xff"), elem("p", text("\r"))), "\x00\r\xff\r"},
		{list(text("a"), odd, comment, full, kind(0, text("g")), kind(4, text("h"))), "abcdefgh"},
		{many(1000, elem("script", text("ab"))), strings.Repeat("ab", 1000)},
	} {
		if s := Words(x.l); s != x.want {
			t.Errorf("Words: %q; want %q", s, x.want)
		}
	}
}

// Promise 8.2: nodes' bytes.
func TestBytes(t *testing.T) {
	for _, x := range []struct {
		l    []api.Node
		want string
	}{
		{nil, "\x00"},
		{list(), "\x00"},
		{list(text("a")), "\x01\x01" + "\x01\x02" + "\x01\x01a"},
		{list(note("")), "\x01\x01" + "\x01\x03" + "\x00"},
		{list(note("ab"), text("c")), "\x01\x02" + "\x01\x03\x01\x02ab" + "\x01\x02\x01\x01c"},
		{list(elem("p")), "\x01\x01" + "\x01\x01" + "\x00" + "\x01\x01p" + "\x00" + "\x00"},
		{list(in(api.SVG, elem("p"))), "\x01\x01" + "\x01\x01" + "\x01\x01" + "\x01\x01p" + "\x00" + "\x00"},
		{list(in(api.Math, elem("mi"))), "\x01\x01" + "\x01\x01" + "\x01\x02" + "\x01\x02mi" + "\x00" + "\x00"},
		{list(with(elem("p"), attr("b", ""), attr("a", "cd"))), "\x01\x01" + "\x01\x01" + "\x00" + "\x01\x01p" + "\x01\x02" + "\x01\x01b\x00" + "\x01\x01a\x01\x02cd" + "\x00"},
		{list(elem("p", elem("b", text("x")), note("")), text("y")), "\x01\x02" + "\x01\x01\x00\x01\x01p\x00" + "\x01\x02" + "\x01\x01\x00\x01\x01b\x00" + "\x01\x01" + "\x01\x02\x01\x01x" + "\x01\x03\x00" + "\x01\x02\x01\x01y"},
		{many(api.MaxNodes, note("")), "\x02\x01\x2c" + strings.Repeat("\x01\x03\x00", api.MaxNodes)},
	} {
		if b, e := Bytes(x.l); b != x.want || e != api.OK {
			t.Errorf("Bytes: %q, %v; want %q", b, e, x.want)
		}
	}
	for i, l := range rights() {
		if b, e := Bytes(l); b != plainBytes(l) || e != api.OK {
			t.Errorf("Bytes of right nodes %d: %d bytes, %v", i, len(b), e)
		}
	}
}

// Promise 8.2: nodes that have no bytes: those that Check refuses, and texts and values that are too long.
func TestBytesErrors(t *testing.T) {
	hold := func(l []api.Node, want api.Errno) {
		t.Helper()
		if b, e := Bytes(l); b != "" || e != want {
			t.Errorf("Bytes: %d bytes, %v; want %v: %s", len(b), e, want, show(l))
		}
	}
	all, _ := wrongs()
	for _, l := range all {
		hold(l, api.ErrForm)
	}
	hold(many(api.MaxNodes+1, elem("b")), api.ErrLong)
	hold(deep(api.MaxDepth+1), api.ErrLong)
	hold(deep(api.MaxDepth, kind(0)), api.ErrLong)
	over := long(api.MaxBytes + 1)
	for _, n := range []api.Node{text(over), note(over), with(elem("p"), attr("a", over)), with(elem("p"), attr("a", "b"), attr("c", over))} {
		hold(list(n), api.ErrLong)
		hold(list(note("a"), n, elem("b", note("a"))), api.ErrLong)
		hold(deep(api.MaxDepth-1, n, elem("b")), api.ErrLong)
		// What Check tells comes first.
		hold(list(n, kind(0)), api.ErrForm)
		hold(list(elem("b", n), text("")), api.ErrForm)
	}
	hold(list(text("\r"+over)), api.ErrForm)
}

// Promise 8.2: nodes are the same if all of them are, in all that they have; R2: nil and empty are the same.
func TestSame(t *testing.T) {
	one := elem("p", text("a"), elem("b", note("c")))
	one.Attrs = []api.Attr{attr("a", "b"), attr("c", "d")}
	change := []func(n *api.Node){
		func(n *api.Node) { n.Kind = 0 },
		func(n *api.Node) { n.Space = api.Math },
		func(n *api.Node) { n.Name = "P" },
		func(n *api.Node) { n.Text = "a" },
		func(n *api.Node) { n.Attrs = n.Attrs[:1] },
		func(n *api.Node) { n.Attrs = nil },
		func(n *api.Node) { n.Attrs = append(n.Attrs, attr("e", "f")) },
		func(n *api.Node) { n.Attrs[1].Name = "b" },
		func(n *api.Node) { n.Attrs[1].Value = "" },
		func(n *api.Node) { n.Attrs[0], n.Attrs[1] = n.Attrs[1], n.Attrs[0] },
		func(n *api.Node) { n.Kids = nil },
		func(n *api.Node) { n.Kids = n.Kids[:1] },
		func(n *api.Node) { n.Kids = append(n.Kids, note("")) },
		func(n *api.Node) { n.Kids[0], n.Kids[1] = n.Kids[1], n.Kids[0] },
		func(n *api.Node) { n.Kids[0].Text = "" },
		func(n *api.Node) { n.Kids[0].Kids = list(note("")) },
		func(n *api.Node) { n.Kids[1].Kids[0].Text = "" },
		func(n *api.Node) { n.Kids[1].Kids[0].Attrs = attrs(1) },
		func(n *api.Node) { n.Kids[1].Kids = nil },
		func(n *api.Node) { n.Kids[1].Kids, n.Kids = nil, append(n.Kids, n.Kids[1].Kids...) },
	}
	for i, f := range change {
		other := Copy(list(one))
		if !Same(other, list(one)) {
			t.Fatal("a copy is not the same")
		}
		f(&other[0])
		for _, x := range [][2][]api.Node{{other, list(one)}, {list(one), other}, {append(list(one), other...), list(one, one)}, {deep(9, one), deep(9, other...)}} {
			if Same(x[0], x[1]) {
				t.Errorf("change %d is not seen", i)
			}
		}
	}
	empty := api.Node{Kind: api.Element, Name: "p", Attrs: []api.Attr{}, Kids: []api.Node{}}
	if !Same(nil, nil) || !Same(nil, list()) || !Same(list(empty), list(api.Node{Kind: api.Element, Name: "p"})) {
		t.Error("nil and empty")
	}
	if Same(nil, list(kind(0))) || Same(list(kind(0)), nil) {
		t.Error("nothing is not something")
	}
}

// Promise 8.2: of all pairs of small lists of any nodes.
func TestSamePairs(t *testing.T) {
	all := smalls(2, anyHeads()...)
	other := smalls(2, anyHeads()...)
	for i, a := range all {
		for j, b := range other {
			if Same(a, b) != (i == j) {
				t.Fatalf("Same: %v: %v, %v", Same(a, b), a, b)
			}
		}
	}
}

// Nodes may lie deeper in one another than any right ones.
func TestVeryDeep(t *testing.T) {
	const n = 1 << 20
	l := deep(n, text("a"), text("b"))
	if c, d := Count(l), Depth(l); c != n+2 || d != n {
		t.Errorf("Count, Depth: %d, %d", c, d)
	}
	if s := Words(l); s != "ab" {
		t.Errorf("Words: %q", s)
	}
	c := Copy(l)
	if !Same(c, l) || Count(c) != n+2 {
		t.Error("Copy, Same")
	}
	if Same(l, deep(n, text("a"), text("c"))) || Same(l, deep(n+1, text("a"), text("b"))) {
		t.Error("Same")
	}
	holdCheck(t, "very deep nodes", l, api.ErrLong)
}

// junk is written into what should be nobody's.
var junk = api.Node{Kind: 9, Space: 9, Name: "junk", Text: "junk"}

// scribble writes junk into all spare room that lists have.
func scribble(l []api.Node) {
	for i := range l[len(l):cap(l)] {
		l[len(l):cap(l)][i] = junk
	}
	for _, n := range l {
		for i := range n.Attrs[len(n.Attrs):cap(n.Attrs)] {
			n.Attrs[len(n.Attrs):cap(n.Attrs)][i] = attr("junk", "junk")
		}
		scribble(n.Kids)
	}
}

// spoil writes junk into all that lists have, spare room too.
func spoil(l []api.Node) {
	for i := range l {
		for j := range l[i].Attrs {
			l[i].Attrs[j] = attr("junk", "junk")
		}
		spoil(l[i].Kids)
	}
	scribble(l)
	for i := range l {
		l[i] = junk
	}
}

// Promise 8.2, rule R3: a copy is new memory, of which no two lists share any.
func TestCopyIsNew(t *testing.T) {
	all := rights()
	wrong, _ := wrongs()
	all = append(all, wrong...)
	all = append(all, smalls(3, anyHeads()...)...)
	for _, l := range all {
		before := whole(l)
		// A list whose spare room holds something: it is nobody's business.
		room := append(slices.Clone(l), junk)
		c := Copy(room[:len(l):len(room)])
		scribble(c)
		if !plainSame(c, l) || !plainSame(room[len(l):], list(junk)) {
			t.Fatalf("Copy: %s; want %s", show(c), show(l))
		}
		spoil(c)
		if whole(l) != before || !plainSame(room[:len(l)], l) {
			t.Fatalf("a change of a copy changed what was copied: %s", show(l))
		}
	}
	twice := Copy(list(elem("p", text("a")), elem("p", text("a"))))
	twice[0].Kids[0].Text = "b"
	if twice[1].Kids[0].Text != "a" {
		t.Error("two lists of a copy share memory")
	}
	shared := list(text("a"))
	twice = Copy(list(elem("p", shared...), elem("p", shared...)))
	twice[0].Kids[0].Text = "b"
	if twice[1].Kids[0].Text != "a" || shared[0].Text != "a" {
		t.Error("two lists of a copy of what shares memory share it")
	}
}

// Rule R3: what is handed in is not changed, spare room too.
func TestNothingIsChanged(t *testing.T) {
	kids := append(list(text("a"), note("b")), junk)[:2]
	l := append(list(with(elem("p", kids...), append(attrs(2), attr("junk", "junk"))[:2]...), text("c")), junk)
	before := whole(l)
	short := l[:2]
	Check(short)
	Count(short)
	Depth(short)
	Words(short)
	Same(short, short)
	Copy(short)
	if _, e := Bytes(short); e != api.OK {
		t.Error(e)
	}
	if whole(l) != before || kids[:3][2].Name != "junk" || l[0].Attrs[:3][2].Name != "junk" {
		t.Errorf("what was handed in was changed: %v", l)
	}
}
