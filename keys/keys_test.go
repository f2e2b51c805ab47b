package keys

import (
	"fmt"
	"math"
	"slices"
	"strings"
	"testing"

	"recto/api"
)

// heads are what nodes may be, right or wrong.
func heads() []api.Node {
	return []api.Node{text("a"), elem("p"), note(""), kind(0)}
}

// The document's example.
func TestExample(t *testing.T) {
	l := list(elem("p", elem("b")), elem("i"))
	want := []Item{{Number: 0, Parent: -1, Place: 0, Depth: 0, Size: 2}, {Number: 1, Parent: 0, Place: 0, Depth: 1, Size: 1}, {Number: 2, Parent: -1, Place: 1, Depth: 0, Size: 1}}
	if all := Items(l); !slices.Equal(all, want) {
		t.Errorf("Items: %v", all)
	}
	for number, want := range [][]int{{0}, {0, 0}, {1}} {
		if w, e := Way(l, number); !slices.Equal(w, want) || e != api.OK {
			t.Errorf("Way(%d): %v, %v", number, w, e)
		}
	}
}

// Promise 19.1: items.
func TestItems(t *testing.T) {
	for _, x := range []struct {
		l    []api.Node
		want []Item
	}{
		{nil, nil},
		{list(), nil},
		{list(text("a")), []Item{{0, -1, 0, 0, 1}}},
		{list(api.Node{}), []Item{{0, -1, 0, 0, 1}}},
		{list(text("a"), note("b")), []Item{{0, -1, 0, 0, 1}, {1, -1, 1, 0, 1}}},
		{list(elem("p", elem("b", text("x")), text("y")), text("z")), []Item{{0, -1, 0, 0, 4}, {1, 0, 0, 1, 2}, {2, 1, 0, 2, 1}, {3, 0, 1, 1, 1}, {4, -1, 1, 0, 1}}},
		{deep(4), []Item{{0, -1, 0, 0, 4}, {1, 0, 0, 1, 3}, {2, 1, 0, 2, 2}, {3, 2, 0, 3, 1}}},
		// Kids count, whatever they are kids of.
		{list(kind(api.Text, kind(api.Comment, text("a")), kind(7))), []Item{{0, -1, 0, 0, 4}, {1, 0, 0, 1, 2}, {2, 1, 0, 2, 1}, {3, 0, 1, 1, 1}}},
	} {
		if all := Items(x.l); !slices.Equal(all, x.want) {
			t.Errorf("Items(%s): %v; want %v", show(x.l), all, x.want)
		}
	}
}

// Promise 19.1: items, ways and nodes of all lists, as the chapter tells them; 19.4: At of Way is the node of that number.
func TestNumbers(t *testing.T) {
	for _, l := range append(lists(), smalls(4, heads()...)...) {
		was := whole(l)
		all := places(l)
		items := Items(l)
		if len(items) != len(all) || len(all) != count(l) {
			t.Fatalf("Items(%s): %d; want %d", show(l), len(items), len(all))
		}
		for i, p := range all {
			if items[i] != p.item {
				t.Fatalf("Items(%s): %v at %d; want %v", show(l), items[i], i, p.item)
			}
			w, e := Way(l, i)
			if !slices.Equal(w, p.way) || e != api.OK {
				t.Fatalf("Way(%s, %d): %v, %v; want %v", show(l), i, w, e, p.way)
			}
			if n, e := At(l, w); !same(list(n), list(p.node)) || e != api.OK {
				t.Fatalf("At(%s, %v): %v, %v; want %v", show(l), w, n, e, p.node)
			}
		}
		for _, number := range []int{-1, len(all), len(all) + 1, math.MinInt, math.MaxInt, math.MaxInt32, 1 << 40} {
			if w, e := Way(l, number); len(w) != 0 || e != api.ErrNone {
				t.Fatalf("Way(%s, %d): %v, %v", show(l), number, w, e)
			}
		}
		if whole(l) != was {
			t.Fatalf("what was handed in was changed: %s", was)
		}
	}
}

// noWays are ways that lead to no node: wrong ones, and those right behind a list's last node, where Insert finds a place.
func noWays(l []api.Node) (wrong, behind [][]int) {
	behind = append(behind, way(len(l)))
	wrong = append(wrong, way(-1), way(len(l)+1), way(math.MinInt), way(math.MaxInt), way(len(l), 0), way(-1, 0), way(math.MaxInt, 0))
	for _, p := range places(l) {
		kids := len(p.node.Kids)
		behind = append(behind, slices.Concat(p.way, way(kids)))
		wrong = append(wrong, slices.Concat(p.way, way(-1)), slices.Concat(p.way, way(kids+1)), slices.Concat(p.way, way(kids, 0)), slices.Concat(p.way, way(-1, 0)), slices.Concat(p.way, way(kids, -1)), slices.Concat(p.way, way(1<<40)))
	}
	return wrong, behind
}

// holdError asks that a list and an error are an error alone.
func holdError(t *testing.T, what string, l []api.Node, w []int, got []api.Node, e, want api.Errno) {
	t.Helper()
	if len(got) != 0 || e != want {
		t.Fatalf("%s(%s, %v): %s, %v; want %v", what, show(l), w, show(got), e, want)
	}
}

// Promises 19.1, 19.2: ways that are empty, and that lead nowhere.
func TestNoWays(t *testing.T) {
	n := elem("new", text("n"))
	for _, l := range append(lists(), smalls(3, heads()...)...) {
		if len(places(l)) > 60 {
			l = l[:min(len(l), 3)]
		}
		was := whole(l)
		hold := func(w []int, want api.Errno, inserts bool) {
			t.Helper()
			before := wholeWay(w)
			m, e := At(l, w)
			if !empty(m) || e != want {
				t.Fatalf("At(%s, %v): %v, %v; want %v", show(l), w, m, e, want)
			}
			p, e := Put(l, w, n)
			holdError(t, "Put", l, w, p, e, want)
			c, e := Cut(l, w)
			holdError(t, "Cut", l, w, c, e, want)
			if i, e := Insert(l, w, n); inserts {
				holdInserted(t, l, w, n, i, e)
			} else {
				holdError(t, "Insert", l, w, i, e, want)
			}
			if wholeWay(w) != before {
				t.Fatalf("the way was changed: %s", before)
			}
		}
		hold(nil, api.ErrArg, false)
		hold(way(), api.ErrArg, false)
		wrong, behind := noWays(l)
		for _, w := range wrong {
			hold(w, api.ErrNone, false)
		}
		for _, w := range behind {
			hold(w, api.ErrNone, true)
		}
		if whole(l) != was {
			t.Fatalf("what was handed in was changed: %s", was)
		}
	}
}

// changed are nodes with the list at a way's end changed by do, as the chapter tells it.
func changed(l []api.Node, w []int, do func(l []api.Node, place int) []api.Node) []api.Node {
	c := copies(l)
	if len(w) == 1 {
		return do(c, w[0])
	}
	c[w[0]].Kids = changed(c[w[0]].Kids, w[1:], do)
	return c
}

// holdInserted asks that n was inserted, and that what is inserted can be cut again.
func holdInserted(t *testing.T, l []api.Node, w []int, n api.Node, got []api.Node, e api.Errno) {
	t.Helper()
	want := changed(l, w, func(l []api.Node, place int) []api.Node {
		return slices.Concat(l[:place], list(n), l[place:])
	})
	if !same(got, want) || e != api.OK {
		t.Fatalf("Insert(%s, %v): %s, %v; want %s", show(l), w, show(got), e, show(want))
	}
	if m, e := At(got, w); !same(list(m), list(n)) || e != api.OK {
		t.Fatalf("At(%s, %v): %v, %v: not what was inserted", show(got), w, m, e)
	}
	if c, e := Cut(got, w); !same(c, l) || e != api.OK {
		t.Fatalf("Cut(%s, %v): %s, %v; want %s", show(got), w, show(c), e, show(l))
	}
}

// Promises 19.2, 19.4: at the way of each node of all lists.
func TestChanges(t *testing.T) {
	news := []api.Node{text("n"), with(elem("new", text("n")), "a", "b"), {}, kind(-5, kind(6))}
	for k, l := range append(lists(), smalls(3, heads()...)...) {
		was := whole(l)
		for i, p := range places(l) {
			if i > 60 && i < count(l)-3 {
				continue
			}
			n := news[(i+k)%len(news)]
			put, e := Put(l, p.way, n)
			want := changed(l, p.way, func(l []api.Node, place int) []api.Node {
				l[place] = n
				return l
			})
			if !same(put, want) || e != api.OK {
				t.Fatalf("Put(%s, %v): %s, %v; want %s", show(l), p.way, show(put), e, show(want))
			}
			if back, e := Put(l, p.way, p.node); !same(back, l) || e != api.OK {
				t.Fatalf("Put(%s, %v) of what stands there: %s, %v", show(l), p.way, show(back), e)
			}
			cut, e := Cut(l, p.way)
			want = changed(l, p.way, func(l []api.Node, place int) []api.Node {
				return slices.Concat(l[:place], l[place+1:])
			})
			if !same(cut, want) || e != api.OK {
				t.Fatalf("Cut(%s, %v): %s, %v; want %s", show(l), p.way, show(cut), e, show(want))
			}
			if back, e := Insert(cut, p.way, p.node); !same(back, l) || e != api.OK {
				t.Fatalf("Insert(%s, %v) of what was cut: %s, %v", show(cut), p.way, show(back), e)
			}
			inserted, e := Insert(l, p.way, n)
			holdInserted(t, l, p.way, n, inserted, e)
		}
		if whole(l) != was {
			t.Fatalf("what was handed in was changed: %s", was)
		}
	}
}

// Promise 19.2: what is put, inserted and cut, told by hand.
func TestChangesByHand(t *testing.T) {
	l := list(elem("p", elem("b", text("x")), text("y")), note("z"))
	n := text("n")
	none := api.ErrNone.Error()
	for _, x := range []struct {
		way              []int
		put, insert, cut string
	}{
		{way(0), "'n'<!z>", "'n'p(b('x')'y')<!z>", "<!z>"},
		{way(1), "p(b('x')'y')'n'", "p(b('x')'y')'n'<!z>", "p(b('x')'y')"},
		{way(2), none, "p(b('x')'y')<!z>'n'", none},
		{way(3), none, none, none},
		{way(-1), none, none, none},
		{way(0, 0), "p('n''y')<!z>", "p('n'b('x')'y')<!z>", "p('y')<!z>"},
		{way(0, 1), "p(b('x')'n')<!z>", "p(b('x')'n''y')<!z>", "p(b('x'))<!z>"},
		{way(0, 2), none, "p(b('x')'y''n')<!z>", none},
		{way(0, 3), none, none, none},
		{way(0, -1), none, none, none},
		{way(0, 0, 0), "p(b('n')'y')<!z>", "p(b('n''x')'y')<!z>", "p(b()'y')<!z>"},
		{way(0, 0, 1), none, "p(b('x''n')'y')<!z>", none},
		{way(0, 0, 2), none, none, none},
		{way(0, 0, 0, 0), none, "p(b('x'('n'))'y')<!z>", none},
		{way(0, 0, 0, 1), none, none, none},
		{way(0, 0, 0, 0, 0), none, none, none},
		{way(0, 2, 0), none, none, none},
		{way(1, 0), none, "p(b('x')'y')<!z>('n')", none},
		{way(1, 1), none, none, none},
		{way(2, 0), none, none, none},
		{way(-1, 0), none, none, none},
		{nil, api.ErrArg.Error(), api.ErrArg.Error(), api.ErrArg.Error()},
	} {
		tell := func(l []api.Node, e api.Errno) string {
			if e != api.OK {
				return e.Error()
			}
			return show(l)
		}
		put, insert, cut := tell(Put(l, x.way, n)), tell(Insert(l, x.way, n)), tell(Cut(l, x.way))
		if put != x.put || insert != x.insert || cut != x.cut {
			t.Errorf("%v: Put %s, Insert %s, Cut %s; want %s, %s, %s", x.way, put, insert, cut, x.put, x.insert, x.cut)
		}
	}
	if m, e := Insert(nil, way(0), n); show(m) != "'n'" || e != api.OK {
		t.Errorf("Insert of the first node: %s, %v", show(m), e)
	}
	if m, e := Cut(list(n), way(0)); len(m) != 0 || e != api.OK {
		t.Errorf("Cut of the only node: %s, %v", show(m), e)
	}
}

// Promise 19.2: what is made may be more, and deeper, than pages may be.
func TestChangesBeyondLimits(t *testing.T) {
	most := many(api.MaxNodes, elem("b"))
	if m, e := Insert(most, way(api.MaxNodes), elem("i")); len(m) != api.MaxNodes+1 || m[api.MaxNodes].Name != "i" || e != api.OK {
		t.Errorf("Insert of one too many: %d, %v", len(m), e)
	}
	to := make([]int, api.MaxDepth+1)
	for _, f := range []func([]api.Node, []int, api.Node) ([]api.Node, api.Errno){Insert, Put} {
		m, e := f(deep(api.MaxDepth, text("a")), to, deep(2)[0])
		if n, _ := At(m, append(to, 0)); n.Name != "b" || e != api.OK {
			t.Errorf("two elements too deep: %s, %v", show(m), e)
		}
	}
}

// Rule R3: what is handed out is new memory, of which no two lists share any; what is handed in is as it was.
func TestNewMemory(t *testing.T) {
	news := roomy(list(with(elem("new", elem("x", text("n")), note("m")), "a", "b", "c", "d"), text("o")))
	wasNews := whole(news)
	for _, l := range append(lists(), smalls(3, heads()...)...) {
		if count(l) > 45 {
			continue
		}
		l = roomy(l)
		was := whole(l)
		hold := func(what string, w []int, got []api.Node) {
			t.Helper()
			before := copies(got)
			widen(got)
			if !same(got, before) {
				t.Fatalf("%s(%s, %v): two lists of the answer share memory", what, show(l), w)
			}
			spoil(got)
			if whole(l) != was || whole(news) != wasNews {
				t.Fatalf("%s(%s, %v): what was handed in was changed, or handed out", what, show(l), w)
			}
		}
		_, all := noWays(l)
		for _, p := range places(l) {
			all = append(all, p.way)
		}
		for _, w := range all {
			w = append(slices.Clone(w), -7)[:len(w)]
			before := wholeWay(w)
			n, _ := At(l, w)
			hold("At", w, list(n))
			for _, n := range slices.Concat(news, l[:min(len(l), 1)]) {
				put, _ := Put(l, w, n)
				hold("Put", w, put)
				inserted, _ := Insert(l, w, n)
				hold("Insert", w, inserted)
			}
			cut, _ := Cut(l, w)
			hold("Cut", w, cut)
			if wholeWay(w) != before {
				t.Fatalf("the way was changed: %s", before)
			}
		}
		for i := range places(l) {
			one, _ := Way(l, i)
			for j := range one[:cap(one)] {
				one[:cap(one)][j] = -9
			}
			clear(Items(l))
			Label(l[0])
			Key(l[0])
		}
		hold("Items, Way, Label, Key", nil, nil)
	}
}

// Rule R3: of nodes that share memory with each other, just the one at the way is changed.
func TestSharedKids(t *testing.T) {
	kids := list(elem("b", text("x")), text("y"))
	l := list(elem("p", kids...), elem("q", kids...))
	for _, x := range []struct {
		what string
		want string
		do   func() ([]api.Node, api.Errno)
	}{
		{"Put", "p(b('x')'n')q(b('x')'y')", func() ([]api.Node, api.Errno) { return Put(l, way(0, 1), text("n")) }},
		{"Insert", "p(b('x')'y')q('n'b('x')'y')", func() ([]api.Node, api.Errno) { return Insert(l, way(1, 0), text("n")) }},
		{"Cut", "p('y')q(b('x')'y')", func() ([]api.Node, api.Errno) { return Cut(l, way(0, 0)) }},
		{"Put of itself", "p(p(b('x')'y')'y')q(b('x')'y')", func() ([]api.Node, api.Errno) { return Put(l, way(0, 0), l[0]) }},
		{"Insert of itself", "p(b('x')'y')p(b('x')'y')q(b('x')'y')", func() ([]api.Node, api.Errno) { return Insert(l, way(1), l[0]) }},
	} {
		m, e := x.do()
		if show(m) != x.want || e != api.OK {
			t.Errorf("%s: %s, %v; want %s", x.what, show(m), e, x.want)
		}
		before := copies(m)
		widen(m)
		if !same(m, before) {
			t.Errorf("%s: two lists share memory", x.what)
		}
		spoil(m)
		if show(l) != "p(b('x')'y')q(b('x')'y')" {
			t.Fatalf("%s: what was handed in was changed: %s", x.what, show(l))
		}
	}
}

// Promise 19.3: labels are the same just if Kind, Space and Name are.
func TestLabel(t *testing.T) {
	type label struct {
		kind, space int
		name        string
	}
	var all []label
	for _, k := range []int{1, 2, 3, 0, -1, 4, 11, 12, 21, 111, math.MinInt, math.MaxInt} {
		for _, s := range []int{0, 1, 2, 3, -1, 11, 12, math.MinInt, math.MaxInt} {
			for _, name := range []string{"", "p", "pp", "P", "1", "1 ", " 1", "2 p", "0", "11", "-1", "\x00", "\xff", "1 0 p", "1 0 1 p"} {
				all = append(all, label{k, s, name})
			}
		}
	}
	had := map[string]label{}
	for _, x := range all {
		n := api.Node{Kind: x.kind, Space: x.space, Name: x.name}
		s := Label(n)
		if other, is := had[s]; is {
			t.Fatalf("%v and %v have the label %q", x, other, s)
		}
		had[s] = x
		// Nothing else counts.
		n.Text, n.Attrs, n.Kids = "t", []api.Attr{{Name: "a", Value: "b"}}, list(elem("p", text("x")))
		if again := Label(n); again != s {
			t.Fatalf("the labels of %v: %q, %q", x, again, s)
		}
	}
}

// unlikes are nodes of which no two are the same, though some would be, if what they have were put one behind the other.
func unlikes() []api.Node {
	base := func(change func(n *api.Node)) api.Node {
		n := with(elem("p", elem("b", text("x")), text("y")), "a", "b", "c", "d")
		change(&n)
		return n
	}
	all := []api.Node{
		base(func(n *api.Node) {}),
		base(func(n *api.Node) { n.Kind = api.Comment }),
		base(func(n *api.Node) { n.Kind = 0 }),
		base(func(n *api.Node) { n.Space = api.SVG }),
		base(func(n *api.Node) { n.Space = -1 }),
		base(func(n *api.Node) { n.Name = "P" }),
		base(func(n *api.Node) { n.Name = "" }),
		base(func(n *api.Node) { n.Text = "p" }),
		base(func(n *api.Node) { n.Text, n.Name = "p", "" }),
		base(func(n *api.Node) { n.Attrs = nil }),
		base(func(n *api.Node) { n.Attrs = n.Attrs[:1] }),
		base(func(n *api.Node) { n.Attrs = n.Attrs[1:] }),
		base(func(n *api.Node) { n.Attrs[0], n.Attrs[1] = n.Attrs[1], n.Attrs[0] }),
		base(func(n *api.Node) { n.Attrs[0] = api.Attr{Name: "ab"} }),
		base(func(n *api.Node) { n.Attrs[0] = api.Attr{Value: "ab"} }),
		base(func(n *api.Node) { n.Attrs[0] = n.Attrs[1] }),
		base(func(n *api.Node) { n.Attrs[1] = n.Attrs[0] }),
		base(func(n *api.Node) { n.Attrs[0].Value, n.Attrs[1].Name = "bc", "" }),
		base(func(n *api.Node) { n.Attrs = append(n.Attrs, api.Attr{}) }),
		base(func(n *api.Node) { n.Attrs = []api.Attr{{Name: "ab", Value: "cd"}} }),
		base(func(n *api.Node) { n.Kids = nil }),
		base(func(n *api.Node) { n.Kids = n.Kids[:1] }),
		base(func(n *api.Node) { n.Kids = n.Kids[1:] }),
		base(func(n *api.Node) { n.Kids[0], n.Kids[1] = n.Kids[1], n.Kids[0] }),
		base(func(n *api.Node) { n.Kids[0].Name = "i" }),
		base(func(n *api.Node) { n.Kids[0].Space = api.Math }),
		base(func(n *api.Node) { n.Kids[0].Kids[0].Text = "z" }),
		base(func(n *api.Node) { n.Kids[0].Kids[0].Kind = api.Comment }),
		base(func(n *api.Node) { n.Kids[0].Kids[0].Attrs = []api.Attr{{}} }),
		base(func(n *api.Node) { n.Kids[0].Kids = nil }),
		base(func(n *api.Node) { n.Kids[0].Kids = append(n.Kids[0].Kids, n.Kids[1]) }),
		base(func(n *api.Node) { n.Kids = list(elem("b", text("x"), text("y"))) }),
		base(func(n *api.Node) { n.Kids = list(elem("b"), text("x"), text("y")) }),
		base(func(n *api.Node) { n.Kids = append(n.Kids, api.Node{}) }),
		base(func(n *api.Node) { n.Kids = append(n.Kids, text("")) }),
		elem("p", text("a"), text("b")), elem("p", text("ab")), elem("p", text("ab"), text("")), elem("p", text(""), text("ab")), elem("p", text("a"), elem("b")),
		elem("pa", text("b")), elem("p", elem("a", text("b"))), elem("p", elem("a"), elem("b")), elem("p", elem("ab")), elem("p", note("ab")),
		deep(40)[0], deep(41)[0], deep(40, text("a"))[0],
	}
	return all
}

// Promise 19.3: keys are the same just if nodes are, with all that is below them.
func TestKey(t *testing.T) {
	all := unlikes()
	// Pieces of what keys may be made of, in each text that a node has.
	for _, s := range []string{"", "1", "1 ", " 1", "1 1", "0 ", "0 0 ", "a", "1 a", "\x00", "\x01a", "(", ")", "\"", ",", "\\", "\xff", Key(text("a")), Key(elem("p")), Label(elem("p"))} {
		for _, r := range []string{"", "1", "0 ", "1 a"} {
			all = append(all, api.Node{Kind: api.Element, Name: "n" + s, Text: r}, api.Node{Kind: api.Element, Name: s, Text: "n" + r}, with(elem("n"), s, r), with(elem("n"), s, "", r, ""), with(elem("n"), s, "", "", r), with(elem("n", elem(s+"k")), "", r), elem("n", text(s), text(r+"k")), elem("n", text(s+"k"), kind(api.Text, text(r))))
		}
	}
	// Attributes that look as kids do, were they not counted.
	all = append(all, elem("n", many(4, api.Node{})...), with(elem("n"), append([]string{"0 0 "}, make([]string, 17)...)...))
	for _, k := range []int{0, 1, 11, -1, math.MinInt, math.MaxInt} {
		for _, s := range []int{3, 1, 11, -1, math.MinInt, math.MaxInt} {
			all = append(all, in(s, kind(k)), in(s, kind(k, kind(1))), in(s, kind(k, kind(k, in(s, kind(1))))))
		}
	}
	for _, l := range append(lists(), smalls(3, heads()...)...) {
		if count(l) <= 60 {
			all = append(all, elem("p", l...))
		}
		all = append(all, l[:min(len(l), 3)]...)
	}
	firsts := map[string]api.Node{} // by what is told of them: all that nodes have
	byKey := map[string]string{}
	for _, n := range all {
		told := told(n)
		key := Key(n)
		if first, is := firsts[told]; is && Key(first) != key {
			t.Fatalf("two keys of %s", told)
		}
		firsts[told] = n
		if other, is := byKey[key]; is && other != told {
			t.Fatalf("one key of %s and %s", told, other)
		}
		byKey[key] = told
		if again := roomy(list(n)); Key(again[0]) != key {
			t.Fatalf("another key of the same in other memory: %s", told)
		}
	}
	if len(byKey) != len(firsts) || len(byKey) < 500 {
		t.Errorf("%d keys of %d nodes", len(byKey), len(firsts))
	}
	// Those that are told to be unlike are.
	had := map[string]int{}
	for i, n := range unlikes() {
		if j, is := had[Key(n)]; is {
			t.Errorf("one key of the unlike nodes %d and %d", i, j)
		}
		had[Key(n)] = i
	}
}

// told tells all that a node has.
func told(n api.Node) string {
	s := fmt.Sprintf("%d %d %q %q %q", n.Kind, n.Space, n.Name, n.Text, n.Attrs)
	for _, k := range n.Kids {
		s += "(" + told(k) + ")"
	}
	return s
}

// Rule R2: nil and empty lists are the same.
func TestNilAndEmpty(t *testing.T) {
	a := api.Node{Kind: api.Element, Name: "p"}
	b := api.Node{Kind: api.Element, Name: "p", Attrs: []api.Attr{}, Kids: list()}
	if Key(a) != Key(b) || Key(elem("q", a)) != Key(elem("q", b)) || Label(a) != Label(b) {
		t.Error("a node with nil lists is not as one with empty ones")
	}
	if m, e := Insert(list(b), way(0, 0), a); show(m) != "p(p())" || e != api.OK {
		t.Errorf("Insert among kids that are empty: %s, %v", show(m), e)
	}
}

// Nodes may lie deeper in one another, and be more, than any right ones; texts may be long.
func TestVeryDeepAndMany(t *testing.T) {
	const n = 1 << 18
	l := deep(n, text("a"))
	all := Items(l)
	if len(all) != n+1 || all[n] != (Item{n, n - 1, 0, n, 1}) || all[0] != (Item{0, -1, 0, 0, n + 1}) {
		t.Errorf("Items: %d", len(all))
	}
	w, e := Way(l, n)
	if len(w) != n+1 || e != api.OK {
		t.Errorf("Way: %d, %v", len(w), e)
	}
	if m, e := At(l, w); m.Text != "a" || e != api.OK {
		t.Errorf("At: %v", e)
	}
	if _, e := At(l, append(w, 0)); e != api.ErrNone {
		t.Errorf("At of one step too many: %v", e)
	}
	put, e := Put(l, w, text("b"))
	if m, _ := At(put, w); m.Text != "b" || e != api.OK {
		t.Errorf("Put: %v", e)
	}
	inserted, e := Insert(l, append(w, 0), text("c"))
	if m, _ := At(inserted, append(w, 0)); m.Text != "c" || e != api.OK {
		t.Errorf("Insert: %v", e)
	}
	cut, e := Cut(l, w)
	if len(Items(cut)) != n || e != api.OK {
		t.Errorf("Cut: %v", e)
	}
	if Key(l[0]) != Key(deep(n, text("a"))[0]) || Key(l[0]) == Key(put[0]) || Key(l[0]) == Key(deep(n + 1)[0]) {
		t.Error("Key")
	}

	wide := many(n, elem("b", text("a")))
	if all := Items(wide); len(all) != 2*n || all[2*n-1] != (Item{2*n - 1, 2*n - 2, 0, 1, 1}) {
		t.Errorf("Items: %d", len(all))
	}
	if w, e := Way(wide, 2*n-1); !slices.Equal(w, way(n-1, 0)) || e != api.OK {
		t.Errorf("Way: %v, %v", w, e)
	}
	long := strings.Repeat("x", 1<<20)
	if Key(text(long)) != Key(text("x"+long[1:])) || Key(text(long)) == Key(text(long[1:])) || Label(elem(long)) == Label(elem(long[1:])) {
		t.Error("keys of long texts")
	}
}
