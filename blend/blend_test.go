package blend

import (
	"math/rand"
	"slices"
	"testing"

	"recto/api"
)

// The document's example.
func TestExample(t *testing.T) {
	o, a, b := letters("abc"), letters("axc"), letters("abcd")
	if s := tell(Texts(o, a, b)); s != "K0-1:0-1:0-1 O1-2:1-2:1-2 K2-3:2-3:2-3 T3-3:3-3:3-4" {
		t.Errorf("Texts: %s", s)
	}
	if l, n := Join(o, a, b); !slices.Equal(l, letters("axcd")) || n != 0 {
		t.Errorf("Join: %q, %d", l, n)
	}
}

// The constants are the chapter's.
func TestConstants(t *testing.T) {
	if Kept != 1 || Theirs != 2 || Ours != 3 || Both != 4 || Clash != 5 {
		t.Errorf("Kept %d, Theirs %d, Ours %d, Both %d, Clash %d", Kept, Theirs, Ours, Both, Clash)
	}
}

// threes are lists of letters, their parts, told by hand, and what they are as one.
var threes = []struct {
	o, a, b, parts, joined string
	clashes                int
}{
	// Nothing, and what is on one side alone.
	{"", "", "", "", "", 0},
	{"ab", "", "", "B0-2:0-0:0-0", "", 0},
	{"", "ab", "", "O0-0:0-2:0-0", "ab", 0},
	{"", "", "ab", "T0-0:0-0:0-2", "ab", 0},
	{"", "ab", "ab", "B0-0:0-2:0-2", "ab", 0},
	{"ab", "", "ab", "O0-2:0-0:0-2", "", 0},
	{"ab", "ab", "", "T0-2:0-2:0-0", "", 0},
	{"", "a", "b", "C0-0:0-1:0-1", "ab", 1},
	{"a", "", "b", "C0-1:0-0:0-1", "b", 1},
	{"a", "b", "", "C0-1:0-1:0-0", "b", 1},
	// All three the same.
	{"a", "a", "a", "K0-1:0-1:0-1", "a", 0},
	{"abc", "abc", "abc", "K0-1:0-1:0-1 K1-2:1-2:1-2 K2-3:2-3:2-3", "abc", 0},
	{"aaa", "aaa", "aaa", "K0-1:0-1:0-1 K1-2:1-2:1-2 K2-3:2-3:2-3", "aaa", 0},
	// Ours, or theirs, as there was.
	{"ab", "ab", "cd", "T0-2:0-2:0-2", "cd", 0},
	{"ab", "cd", "ab", "O0-2:0-2:0-2", "cd", 0},
	{"ab", "ab", "b", "T0-1:0-1:0-0 K1-2:1-2:0-1", "b", 0},
	{"ab", "b", "ab", "O0-1:0-0:0-1 K1-2:0-1:1-2", "b", 0},
	// Both changed alike, and unlike.
	{"ab", "cd", "cd", "B0-2:0-2:0-2", "cd", 0},
	{"ab", "cd", "ef", "C0-2:0-2:0-2", "cdef", 1},
	{"ab", "c", "cd", "C0-2:0-1:0-2", "ccd", 1},
	{"abc", "axc", "axc", "K0-1:0-1:0-1 B1-2:1-2:1-2 K2-3:2-3:2-3", "axc", 0},
	{"abc", "axc", "ayc", "K0-1:0-1:0-1 C1-2:1-2:1-2 K2-3:2-3:2-3", "axyc", 1},
	{"abc", "ac", "ac", "K0-1:0-1:0-1 B1-2:1-1:1-1 K2-3:1-2:1-2", "ac", 0},
	{"abc", "ac", "axc", "K0-1:0-1:0-1 C1-2:1-1:1-2 K2-3:1-2:2-3", "axc", 1},
	// Ahead of the first triple, between two, and behind the last one.
	{"m", "xm", "m", "O0-0:0-1:0-0 K0-1:1-2:0-1", "xm", 0},
	{"m", "m", "xm", "T0-0:0-0:0-1 K0-1:0-1:1-2", "xm", 0},
	{"m", "xm", "xm", "B0-0:0-1:0-1 K0-1:1-2:1-2", "xm", 0},
	{"m", "xm", "ym", "C0-0:0-1:0-1 K0-1:1-2:1-2", "xym", 1},
	{"m", "mx", "m", "K0-1:0-1:0-1 O1-1:1-2:1-1", "mx", 0},
	{"m", "m", "mx", "K0-1:0-1:0-1 T1-1:1-1:1-2", "mx", 0},
	{"m", "mx", "my", "K0-1:0-1:0-1 C1-1:1-2:1-2", "mxy", 1},
	{"mn", "mxn", "mn", "K0-1:0-1:0-1 O1-1:1-2:1-1 K1-2:2-3:1-2", "mxn", 0},
	{"1m2n3", "4m2n3", "1m5n", "O0-1:0-1:0-1 K1-2:1-2:1-2 T2-3:2-3:2-3 K3-4:3-4:3-4 T4-5:4-5:4-4", "4m5n", 0},
	{"1m2n3", "4m6n8", "5m7n9", "C0-1:0-1:0-1 K1-2:1-2:1-2 C2-3:2-3:2-3 K3-4:3-4:3-4 C4-5:4-5:4-5", "45m67n89", 3},
	// A place of what there was that is in a pair of ours alone, or of theirs alone.
	{"abc", "abc", "ac", "K0-1:0-1:0-1 T1-2:1-2:1-1 K2-3:2-3:1-2", "ac", 0},
	{"abc", "ac", "abc", "K0-1:0-1:0-1 O1-2:1-1:1-2 K2-3:1-2:2-3", "ac", 0},
	{"ab", "axb", "a", "K0-1:0-1:0-1 C1-2:1-3:1-1", "axb", 1},
	{"ab", "a", "axb", "K0-1:0-1:0-1 C1-2:1-1:1-3", "axb", 1},
	{"ab", "a", "b", "C0-2:0-1:0-1", "ab", 1},
	{"ab", "b", "a", "C0-2:0-1:0-1", "ba", 1},
	{"ab", "ba", "ab", "O0-1:0-0:0-1 K1-2:0-1:1-2 O2-2:1-2:2-2", "ba", 0},
	{"ab", "ba", "ba", "B0-1:0-0:0-0 K1-2:0-1:0-1 B2-2:1-2:1-2", "ba", 0},
	// The same many times.
	{"aa", "a", "aa", "K0-1:0-1:0-1 O1-2:1-1:1-2", "a", 0},
	{"a", "aa", "aaa", "K0-1:0-1:0-1 C1-1:1-2:1-3", "aaaa", 1},
	{"aaa", "a", "a", "K0-1:0-1:0-1 B1-3:1-1:1-1", "a", 0},
	{"aba", "a", "ba", "C0-3:0-1:0-2", "aba", 1},
	{"baa", "a", "ba", "O0-1:0-0:0-1 K1-2:0-1:1-2 B2-3:1-1:2-2", "a", 0},
}

// Promises 25.1, 25.2: told by hand.
func TestTexts(t *testing.T) {
	for _, x := range threes {
		o, a, b := letters(x.o), letters(x.a), letters(x.b)
		parts := Texts(o, a, b)
		if s := tell(parts); s != x.parts {
			t.Errorf("Texts(%s, %s, %s): %s; want %s (plainly: %s)", x.o, x.a, x.b, s, x.parts, tell(plainTexts(o, a, b)))
		}
		if l, n := Join(o, a, b); !slices.Equal(l, letters(x.joined)) || n != x.clashes {
			t.Errorf("Join(%s, %s, %s): %q, %d; want %s, %d", x.o, x.a, x.b, l, n, x.joined, x.clashes)
		}
		if Clean(parts) != (x.clashes == 0) {
			t.Errorf("Clean(%s): %v", tell(parts), Clean(parts))
		}
		holdTexts(t, o, a, b)
	}
}

// Promise 25.1: texts are held against each other byte by byte, whatever they are.
func TestOddTexts(t *testing.T) {
	o := []string{"", "a b", "\xff", "é"}
	a := []string{"", "a  b", "\xff", "é"}
	b := []string{"", "a b", "\xef\xbf\xbd", "e\u0301"}
	if s := tell(Texts(o, a, b)); s != "K0-1:0-1:0-1 C1-4:1-4:1-4" {
		t.Errorf("Texts: %s", s)
	}
	holdTexts(t, o, a, b)
	holdTexts(t, []string{""}, []string{"", ""}, []string{"", "", ""})
	holdTexts(t, []string{"ab", "c"}, []string{"a", "bc"}, []string{"abc"})
}

// holdParts asks that parts go through each list from its beginning to its end: 25.3; and that Clean tells of them what it should.
func holdParts(t *testing.T, l []Part, o, a, b int) {
	t.Helper()
	end := Part{}
	clean := true
	for _, x := range l {
		if x.O.From != end.O.To || x.A.From != end.A.To || x.B.From != end.B.To || x.O.To < x.O.From || x.A.To < x.A.From || x.B.To < x.B.From {
			t.Fatalf("%s: it does not go on where it was", tell(l))
		}
		if x.O.To+x.A.To+x.B.To == x.O.From+x.A.From+x.B.From {
			t.Fatalf("%s: nothing is a part", tell(l))
		}
		end = x
		clean = clean && x.Kind != Clash
	}
	if end.O.To != o || end.A.To != a || end.B.To != b {
		t.Fatalf("%s: it does not go to the end: %d, %d, %d", tell(l), o, a, b)
	}
	if Clean(l) != clean {
		t.Fatalf("Clean(%s): %v", tell(l), !clean)
	}
}

// holdTexts asks for what the chapter tells of three lists of texts.
func holdTexts(t *testing.T, o, a, b []string) {
	t.Helper()
	parts := Texts(o, a, b)
	if want := plainTexts(o, a, b); !slices.Equal(parts, want) {
		t.Fatalf("Texts(%q, %q, %q): %s; want %s", o, a, b, tell(parts), tell(want))
	}
	holdParts(t, parts, len(o), len(a), len(b))
	if other := Texts(o, b, a); !slices.Equal(other, turned(parts)) {
		t.Fatalf("Texts(%q, %q, %q): %s; of the other way round %s", o, a, b, tell(parts), tell(other))
	}
	l, n := Join(o, a, b)
	want, clashes := plainJoin(o, a, b)
	if !slices.Equal(l, want) || n != clashes {
		t.Fatalf("Join(%q, %q, %q): %q, %d; want %q, %d", o, a, b, l, n, want, clashes)
	}
}

// holdSides asks for 25.4 of two lists of texts.
func holdSides(t *testing.T, o, x []string) {
	t.Helper()
	for _, c := range [][3][]string{{o, o, x}, {o, x, o}, {o, x, x}} {
		if l, n := Join(c[0], c[1], c[2]); !slices.Equal(l, x) || n != 0 || !Clean(Texts(c[0], c[1], c[2])) {
			t.Fatalf("Join(%q, %q, %q): %q, %d; want %q", c[0], c[1], c[2], l, n, x)
		}
	}
}

// Promises 25.1 to 25.5: all short lists.
func TestAllTexts(t *testing.T) {
	for _, all := range [][][]string{lists(3, "a", "b"), lists(2, "a", "b", "c")} {
		for _, o := range all {
			for _, a := range all {
				for _, b := range all {
					holdTexts(t, o, a, b)
				}
				holdSides(t, o, a)
			}
		}
	}
	all := lists(5, "a", "b", "c")
	for _, o := range all[:200] {
		for _, a := range all {
			holdSides(t, o, a)
		}
	}
}

// Promises 25.1 to 25.5: by chance, of longer lists that have much in common.
func TestSomeTexts(t *testing.T) {
	r := rand.New(rand.NewSource(25))
	for range 5000 {
		most := 1 + r.Intn(9)
		letter := func() string { return string(rune('a' + r.Intn(most))) }
		var o []string
		for range r.Intn(30) {
			o = append(o, letter())
		}
		a, b := changed(r, o, letter), changed(r, o, letter)
		holdTexts(t, o, a, b)
		holdSides(t, o, a)
		// Nothing of a list is another one's.
		holdTexts(t, a, letters("xyz"), b)
	}
}

// Promise 25.1: long lists.
func TestLong(t *testing.T) {
	var o []string
	for i := range 3000 {
		o = append(o, string(rune('a'+i%23)))
	}
	a, b := slices.Clone(o), slices.Clone(o)
	a[10], b[1000], a[2000], b[2000] = "A", "B", "A", "B"
	b = append(b, "C")
	l, n := Join(o, a, b)
	want := slices.Insert(slices.Clone(b), 2000, "A")
	want[10] = "A"
	if !slices.Equal(l, want) || n != 1 {
		t.Errorf("Join: %d texts, %d clashes", len(l), n)
	}
	holdTexts(t, o, a, b)
	holdSides(t, o, a)
	same := slices.Repeat(o, 50)
	if parts := Texts(same, same, same); len(parts) != len(same) || parts[len(same)-1].Kind != Kept {
		t.Errorf("Texts of the same: %d parts", len(parts))
	}
}

// Promise 25.2: Clean looks at nothing but whether a Kind is Clash.
func TestClean(t *testing.T) {
	for _, x := range []struct {
		kinds []int
		want  bool
	}{
		{nil, true},
		{[]int{}, true},
		{[]int{Kept, Theirs, Ours, Both}, true},
		{[]int{Clash}, false},
		{[]int{Clash, Kept}, false},
		{[]int{Kept, Clash, Kept}, false},
		{[]int{Kept, Clash}, false},
		{[]int{0, 6, -1, -5, 1 << 62}, true},
		{[]int{0, 6, Clash}, false},
	} {
		var l []Part
		for _, k := range x.kinds {
			l = append(l, Part{Kind: k, O: Range{5, 5}})
		}
		if Clean(l) != x.want {
			t.Errorf("Clean(%v): %v", x.kinds, !x.want)
		}
	}
	if !Clean([]Part{{O: Range{Clash, Clash}, A: Range{Clash, Clash}, B: Range{Clash, Clash}}}) {
		t.Errorf("Clean: a place is no Kind")
	}
}

// Promise 25.1: lists of nodes, told by hand.
func TestNodes(t *testing.T) {
	i, b, u := elem("i"), elem("b"), elem("u")
	for _, x := range []struct {
		what    string
		o, a, b []api.Node
		want    string
	}{
		{"nothing", nil, nil, nil, ""},
		{"ours alone", nil, list(i), nil, "O0-0:0-1:0-0"},
		{"theirs alone", nil, nil, list(i), "T0-0:0-0:0-1"},
		{"gone", list(i), nil, nil, "B0-1:0-0:0-0"},
		{"the same", list(i, b), list(i, b), list(i, b), "K0-1:0-1:0-1 K1-2:1-2:1-2"},
		{"a new one ahead", list(i), list(u, i), list(i), "O0-0:0-1:0-0 K0-1:1-2:0-1"},
		{"both new, the same", list(i), list(i, p("1")), list(i, p("1")), "K0-1:0-1:0-1 B1-1:1-2:1-2"},
		{"both new, alike", list(i), list(i, p("1")), list(i, p("2")), "K0-1:0-1:0-1 C1-1:1-2:1-2"},
		// What is alike is a pair, too.
		{"ours alike", list(p("1")), list(p("2")), list(p("1")), "K0-1:0-1:0-1"},
		{"theirs alike", list(p("1")), list(p("1")), list(p("2")), "K0-1:0-1:0-1"},
		{"all three alike", list(p("1")), list(p("2")), list(p("3")), "K0-1:0-1:0-1"},
		{"texts", list(text("1")), list(text("2")), list(text("3")), "K0-1:0-1:0-1"},
		{"notes and texts", list(note("1")), list(text("1")), list(note("1")), "O0-1:0-1:0-1"},
		{"attributes", list(p("1")), list(with(p("1"), "a", "b")), list(with(p("1"), "a", "c")), "K0-1:0-1:0-1"},
		{"another name", list(i), list(b), list(i), "O0-1:0-1:0-1"},
		{"other names", list(i), list(b), list(u), "C0-1:0-1:0-1"},
		{"another space", list(i), list(in(api.SVG, i)), list(in(api.SVG, i)), "B0-1:0-1:0-1"},
		{"unlike spaces", list(i), list(in(api.SVG, i)), list(in(api.Math, i)), "C0-1:0-1:0-1"},
		// In a pair of one alone.
		{"alike in ours alone", list(p("1"), i), list(p("2"), i), list(i), "C0-1:0-1:0-0 K1-2:1-2:0-1"},
		{"the same in ours alone", list(p("1"), i), list(p("1"), i), list(i), "T0-1:0-1:0-0 K1-2:1-2:0-1"},
		{"alike in theirs alone", list(p("1"), i), list(i), list(p("2"), i), "C0-1:0-0:0-1 K1-2:0-1:1-2"},
		// What is the same is told by all that is below.
		{"the same up to what is deep", list(i), list(i, elem("p", elem("b", p("1")))), list(i, elem("p", elem("b", p("2")))), "K0-1:0-1:0-1 C1-1:1-2:1-2"},
		{"nodes of one name, one new", list(p("1"), p("2")), list(p("1"), p("x"), p("2")), list(p("1"), p("2"), p("3")), "K0-1:0-1:0-1 O1-1:1-2:1-1 K1-2:2-3:1-2 T2-2:3-3:2-3"},
	} {
		if s := tell(Nodes(x.o, x.a, x.b)); s != x.want {
			t.Errorf("%s: %s; want %s (plainly: %s)", x.what, s, x.want, tell(plainNodes(x.o, x.a, x.b)))
		}
		holdNodes(t, x.o, x.a, x.b)
	}
}

// holdNodes asks for what the chapter tells of three lists of nodes.
func holdNodes(t *testing.T, o, a, b []api.Node) {
	t.Helper()
	parts := Nodes(o, a, b)
	if want := plainNodes(o, a, b); !slices.Equal(parts, want) {
		t.Fatalf("Nodes(%s, %s, %s): %s; want %s", show(o), show(a), show(b), tell(parts), tell(want))
	}
	holdParts(t, parts, len(o), len(a), len(b))
	if other := Nodes(o, b, a); !slices.Equal(other, turned(parts)) {
		t.Fatalf("Nodes(%s, %s, %s): %s; of the other way round %s", show(o), show(a), show(b), tell(parts), tell(other))
	}
}

// Promises 25.1, 25.3, 25.5: all short lists of nodes, some of which are alike.
func TestAllNodes(t *testing.T) {
	all := [][]api.Node{nil}
	for _, n := range few() {
		all = append(all, list(n))
		for _, m := range few() {
			all = append(all, list(n, m))
		}
	}
	for _, o := range all {
		for _, a := range all {
			for _, b := range all {
				holdNodes(t, o, a, b)
			}
		}
	}
}

// Promises 25.1, 25.3, 25.5: by chance, of longer lists that have much in common.
func TestSomeNodes(t *testing.T) {
	r := rand.New(rand.NewSource(251))
	for range 3000 {
		some := func() api.Node {
			if l := few(); r.Intn(2) == 0 {
				return l[r.Intn(len(l))]
			}
			return chance(r, 2)
		}
		var o []api.Node
		for range r.Intn(15) {
			o = append(o, some())
		}
		holdNodes(t, o, changed(r, o, some), changed(r, o, some))
	}
}

// Promise 25.1: where no two nodes are alike that are not the same, they are lined up as texts are.
func TestNodesAsTexts(t *testing.T) {
	all := lists(3, "a", "b")
	for _, o := range all {
		for _, a := range all {
			for _, b := range all {
				if parts := Nodes(elems(o), elems(a), elems(b)); !slices.Equal(parts, Texts(o, a, b)) {
					t.Fatalf("Nodes(%q, %q, %q): %s; want %s", o, a, b, tell(parts), tell(Texts(o, a, b)))
				}
			}
		}
	}
	if s := tell(Nodes(elems(letters("abc")), elems(letters("axc")), elems(letters("abcd")))); s != "K0-1:0-1:0-1 O1-2:1-2:1-2 K2-3:2-3:2-3 T3-3:3-3:3-4" {
		t.Errorf("Nodes: %s", s)
	}
}

// Wrong inputs: nodes that are not right.
func TestWrong(t *testing.T) {
	all := wrongs()
	for _, o := range all {
		for _, a := range all {
			for _, b := range all {
				holdNodes(t, o, a, b)
			}
		}
	}
}

// Nodes may lie deeper in one another than calls can.
func TestVeryDeep(t *testing.T) {
	const far = 200000
	o, a, b := deep(far, text("o")), deep(far, text("a")), deep(far, text("b"))
	if s := tell(Nodes(o, a, b)); s != "K0-1:0-1:0-1" {
		t.Errorf("Nodes: %s", s)
	}
	if s := tell(Nodes(nil, a, b)); s != "C0-0:0-1:0-1" {
		t.Errorf("Nodes, ours and theirs alone: %s", s)
	}
	if s := tell(Nodes(nil, a, deep(far, text("a")))); s != "B0-0:0-1:0-1" {
		t.Errorf("Nodes, ours and theirs the same: %s", s)
	}
}

// R3, R6: what is handed in is as it was, and what is handed out is nobody's.
func TestMemory(t *testing.T) {
	o, a, b := roomyTexts(letters("abc")), roomyTexts(letters("axcd")), roomyTexts(letters("aycd"))
	was := slices.Concat(o[:cap(o)], a[:cap(a)], b[:cap(b)])
	for range 2 {
		parts := Texts(o, a, b)
		if s := tell(parts); s != "K0-1:0-1:0-1 C1-2:1-2:1-2 K2-3:2-3:2-3 B3-3:3-4:3-4" {
			t.Errorf("Texts: %s", s)
		}
		clear(parts[:cap(parts)])
		l, n := Join(o, a, b)
		if !slices.Equal(l, letters("axycd")) || n != 1 {
			t.Errorf("Join: %q, %d", l, n)
		}
		clear(l[:cap(l)])
		l, _ = Join(o, o, o)
		clear(l[:cap(l)])
		if now := slices.Concat(o[:cap(o)], a[:cap(a)], b[:cap(b)]); !slices.Equal(now, was) {
			t.Errorf("what was handed in was changed: %q", now)
		}
	}
	x, y, z := roomy(list(p("1"), with(elem("i"), "a", "b"))), roomy(list(p("2"))), roomy(list(text("a"), p("1")))
	before := whole(x) + whole(y) + whole(z)
	parts := Nodes(x, y, z)
	clear(parts[:cap(parts)])
	if whole(x)+whole(y)+whole(z) != before {
		t.Errorf("nodes that were handed in were changed")
	}
	holdNodes(t, x, y, z)
}

// R2: a list without an element may be nil or empty.
func TestEmpty(t *testing.T) {
	for _, o := range [][]string{nil, {}} {
		for _, a := range [][]string{nil, {}} {
			if l, n := Join(o, a, a); len(Texts(o, a, a)) != 0 || len(l) != 0 || n != 0 {
				t.Errorf("Join of nothing: %q, %d", l, n)
			}
			if s := tell(Texts(o, a, []string{"a"})); s != "T0-0:0-0:0-1" {
				t.Errorf("Texts: %s", s)
			}
		}
	}
	empty := api.Node{Kind: api.Element, Name: "p", Attrs: []api.Attr{}, Kids: []api.Node{}}
	if s := tell(Nodes([]api.Node{}, list(empty), list(elem("p")))); s != "B0-0:0-1:0-1" {
		t.Errorf("Nodes: %s", s)
	}
}
