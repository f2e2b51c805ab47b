package edit

import (
	"fmt"
	"math"
	"math/rand"
	"slices"
	"testing"

	"recto/api"
)

// heads are what nodes may be, right or wrong.
func heads() []api.Node {
	return []api.Node{text("a"), text("b"), elem("p"), with(elem("p"), "x", "1"), kind(0)}
}

// The document's example.
func TestExample(t *testing.T) {
	s := Script(list(p("a")), list(p("b")))
	if want := script(newText("a", "b", 0, 0)); !exact(s, want) {
		t.Errorf("Script: %v", s)
	}
}

// Promise 21.1: scripts, told by hand.
func TestScript(t *testing.T) {
	for _, x := range []struct {
		a, b []api.Node
		want string
	}{
		// No nodes.
		{nil, nil, ""},
		{list(), nil, ""},
		{nil, list(p("a")), "0+p('a')"},
		{list(p("a")), nil, "0-p('a')"},
		{nil, list(p("a"), elem("i"), text("x")), "0+p('a') 1+i() 2+'x'"},
		{list(p("a"), elem("i"), text("x")), nil, "0-p('a') 0-i() 0-'x'"},
		// The same.
		{list(p("a"), elem("i")), list(p("a"), elem("i")), ""},
		// Alone ahead of a pair, between two, and behind the last one; in the first page, the second one, both.
		{list(elem("i"), elem("u"), p("a")), list(p("a")), "0-i() 0-u()"},
		{list(p("a")), list(elem("i"), elem("u"), p("a")), "0+i() 1+u()"},
		{list(elem("i"), elem("u"), p("a")), list(elem("b"), elem("s"), p("a")), "0-i() 0-u() 0+b() 1+s()"},
		{list(p("a"), elem("i"), elem("u"), p("b")), list(p("a"), p("b")), "1-i() 1-u()"},
		{list(p("a"), p("b")), list(p("a"), elem("i"), elem("u"), p("b")), "1+i() 2+u()"},
		{list(p("a"), elem("i"), elem("u"), p("b")), list(p("a"), elem("b"), p("b")), "1-i() 1-u() 1+b()"},
		{list(p("a"), elem("i"), elem("u")), list(p("a")), "1-i() 1-u()"},
		{list(p("a")), list(p("a"), elem("i"), elem("u")), "1+i() 2+u()"},
		{list(p("a"), elem("i")), list(p("a"), elem("b"), elem("s")), "1-i() 1+b() 2+s()"},
		{list(elem("i"), p("a"), elem("i"), p("b"), elem("i")), list(elem("u"), p("a"), elem("u"), p("b"), elem("u")), "0-i() 0+u() 2-i() 2+u() 4-i() 4+u()"},
		{list(elem("i"), p("a"), elem("i"), p("b"), elem("i")), list(p("a"), p("b")), "0-i() 1-i() 2-i()"},
		{list(p("a"), p("b")), list(elem("u"), p("a"), elem("u"), p("b"), elem("u")), "0+u() 2+u() 4+u()"},
		// Alone beside a pair that is alike.
		{list(elem("i"), p("a"), elem("u")), list(elem("b"), p("b"), elem("s")), "0-i() 0+b() 1.0~a>b 2-u() 2+s()"},
		// Alike: Attrs, Text, both, neither; and their order alone.
		{list(with(elem("p"), "x", "1")), list(with(elem("p"), "x", "2")), "0@[x=1]>[x=2]"},
		{list(with(elem("p"), "x", "1")), list(elem("p")), "0@[x=1]>"},
		{list(elem("p")), list(with(elem("p"), "x", "1")), "0@>[x=1]"},
		{list(with(elem("p"), "x", "1", "y", "2")), list(with(elem("p"), "y", "2", "x", "1")), "0@[x=1][y=2]>[y=2][x=1]"},
		{list(with(elem("p"), "x", "1")), list(with(elem("p"), "y", "1")), "0@[x=1]>[y=1]"},
		{list(note("a")), list(note("")), "0~a>"},
		{list(text("a")), list(text("b")), "0~a>b"},
		{list(with(text("a"), "x", "1")), list(with(text("b"), "x", "2")), "0@[x=1]>[x=2] 0~a>b"},
		{list(with(text("a"), "x", "1")), list(with(text("b"), "x", "1")), "0~a>b"},
		{list(elem("p", elem("i"))), list(elem("p", elem("u"))), "0.0-i() 0.0+u()"},
		{list(with(elem("p", text("a")), "x", "1")), list(with(elem("p", text("b"), elem("i")), "x", "2")), "0@[x=1]>[x=2] 0.0~a>b 0.1+i()"},
		// Of one label just if Kind, Space and Name are the same.
		{list(text("a")), list(note("a")), "0-'a' 0+<!a>"},
		{list(elem("p")), list(in(api.SVG, elem("p"))), "0-p() 0+p/1()"},
		{list(elem("p")), list(elem("q")), "0-p() 0+q()"},
		// Two that are alike, side by side, and what is behind them.
		{list(p("a"), p("b"), elem("i")), list(p("c"), p("d"), elem("u")), "0.0~a>c 1.0~b>d 2-i() 2+u()"},
		// Deep in one another.
		{list(elem("a", elem("b", elem("c", text("1"))), text("2"))), list(elem("a", elem("b", elem("c", text("3")), elem("d")), text("4")), note("5")), "0.0.0.0~1>3 0.0.1+d() 0.1~2>4 1+<!5>"},
		{list(text("x"), elem("a", elem("b"), elem("c", elem("d"), elem("e", text("1"))))), list(elem("a", elem("c", elem("e", text("2")))), note("y")), "0-'x' 0.0-b() 0.0.0-d() 0.0.0.0~1>2 1+<!y>"},
		// What is below a whole pair is left alone; the same twice.
		{list(elem("u", p("a")), p("a")), list(elem("u", p("a")), p("b")), "1.0~a>b"},
		{list(p("a"), p("a")), list(p("a")), "1-p('a')"},
		{list(p("a")), list(p("a"), p("a")), "1+p('a')"},
		// The other way round.
		{list(p("a"), p("b")), list(p("b"), p("a")), "0-p('a') 1+p('a')"},
		// Kids of texts.
		{list(kind(api.Text, text("a"))), list(kind(api.Text, text("b"), elem("i"))), "0.0~a>b 0.1+i()"},
	} {
		s := Script(x.a, x.b)
		if got := tell(s); got != x.want {
			t.Errorf("from %s to %s: %s; want %s", show(x.a), show(x.b), got, x.want)
		}
		holdScript(t, x.a, x.b)
	}
}

// holdScript asks for what the chapter tells of the script from a to b: 21.1, 21.3 and 21.4.
func holdScript(t *testing.T, a, b []api.Node) {
	t.Helper()
	wasA, wasB := wholeNodes(a), wholeNodes(b)
	s, want := Script(a, b), plainScript(a, b)
	if !exact(s, want) {
		t.Fatalf("from %s to %s: %s; want %s", show(a), show(b), tell(s), tell(want))
	}
	l, e := Apply(a, s)
	if !same(l, b) || e != api.OK {
		t.Fatalf("from %s to %s: %s makes %s, %v", show(a), show(b), tell(s), show(l), e)
	}
	if same(a, b) != (len(s) == 0) {
		t.Fatalf("from %s to %s: %s", show(a), show(b), tell(s))
	}
	if wholeNodes(a) != wasA || wholeNodes(b) != wasB {
		t.Fatalf("what was handed in was changed: %s, %s", wasA, wasB)
	}
}

// Promises 21.1, 21.3, 21.4: all pages that are small, and pages of all sorts.
func TestAllScripts(t *testing.T) {
	small := smalls(2, heads()...)
	small = append(small, smalls(3, heads()[1:3]...)...)
	for _, a := range small {
		for _, b := range small {
			holdScript(t, a, b)
		}
	}
	for _, a := range pages() {
		for _, b := range pages() {
			holdScript(t, a, b)
		}
		if s := Script(a, copies(a)); len(s) != 0 {
			t.Errorf("from %s to itself: %s", show(a), tell(s))
		}
	}
}

// Promises 21.1, 21.3, 21.5: pages by chance, and scripts one behind the other.
func TestScriptsByChance(t *testing.T) {
	r := rand.New(rand.NewSource(21))
	for range 3000 {
		a := some(r, 3)
		b := edited(r, a)
		c := edited(r, b)
		if r.Intn(4) == 0 {
			c = some(r, 3)
		}
		holdScript(t, a, b)
		holdScript(t, b, c)
		both := slices.Concat(Script(a, b), Script(b, c))
		if l, e := Apply(a, both); !same(l, c) || e != api.OK {
			t.Fatalf("%s makes of %s %s, %v; want %s", tell(both), show(a), show(l), e, show(c))
		}
	}
}

// Promise 21.1: what fits, and what does not, of one edit; told by hand.
func TestApply(t *testing.T) {
	l := list(with(elem("p", text("a"), elem("b")), "x", "1", "y", "2"), note("n"), elem("u"))
	first := l[0]
	turnedAttrs := attrs("y", "2", "x", "1")
	for _, x := range []struct {
		edit Edit
		e    api.Errno
		want string
	}{
		// Put in: at each place, the one behind the last one too.
		{putIn(elem("i"), 0), api.OK, "i()p[x=1][y=2]('a'b())<!n>u()"},
		{putIn(elem("i"), 2), api.OK, "p[x=1][y=2]('a'b())<!n>i()u()"},
		{putIn(elem("i"), 3), api.OK, "p[x=1][y=2]('a'b())<!n>u()i()"},
		{putIn(elem("i"), 0, 2), api.OK, "p[x=1][y=2]('a'b()i())<!n>u()"},
		{putIn(elem("i"), 0, 1, 0), api.OK, "p[x=1][y=2]('a'b(i()))<!n>u()"},
		{putIn(elem("i"), 1, 0), api.OK, "p[x=1][y=2]('a'b())<!n>(i())u()"},
		{putIn(elem("i"), 4), api.ErrNone, ""},
		{putIn(elem("i"), -1), api.ErrNone, ""},
		{putIn(elem("i"), 0, 3), api.ErrNone, ""},
		{putIn(elem("i"), 3, 0), api.ErrNone, ""},
		{putIn(elem("i"), 0, 0, 1), api.ErrNone, ""},
		{putIn(elem("i")), api.ErrNone, ""},
		{Edit{What: PutIn, Way: way(1), Old: junk, New: elem("i")}, api.OK, "p[x=1][y=2]('a'b())i()<!n>u()"},
		{Edit{What: PutIn, Way: way(1), Old: elem("i")}, api.OK, "p[x=1][y=2]('a'b())?0\"\"\"\"<!n>u()"},
		// Taken out: just what stands there, with all that is below it.
		{takenOut(note("n"), 1), api.OK, "p[x=1][y=2]('a'b())u()"},
		{takenOut(first, 0), api.OK, "<!n>u()"},
		{takenOut(text("a"), 0, 0), api.OK, "p[x=1][y=2](b())<!n>u()"},
		{takenOut(elem("u"), 2), api.OK, "p[x=1][y=2]('a'b())<!n>"},
		{Edit{What: TakenOut, Way: way(1), Old: note("n"), New: junk}, api.OK, "p[x=1][y=2]('a'b())u()"},
		{takenOut(elem("u"), 3), api.ErrNone, ""},
		{takenOut(elem("u"), 0, 2), api.ErrNone, ""},
		{takenOut(elem("u"), math.MaxInt), api.ErrNone, ""},
		{takenOut(elem("u"), math.MinInt, 0), api.ErrNone, ""},
		{takenOut(elem("u")), api.ErrNone, ""},
		{takenOut(elem("u"), 1), api.ErrState, ""},
		{takenOut(elem("p", first.Kids...), 0), api.ErrState, ""},
		{takenOut(api.Node{Kind: api.Element, Name: "p", Attrs: turnedAttrs, Kids: first.Kids}, 0), api.ErrState, ""},
		{takenOut(with(elem("p", text("a")), "x", "1", "y", "2"), 0), api.ErrState, ""},
		{takenOut(with(elem("p", text("a"), elem("b", elem("i"))), "x", "1", "y", "2"), 0), api.ErrState, ""},
		{takenOut(text("n"), 1), api.ErrState, ""},
		{takenOut(note("m"), 1), api.ErrState, ""},
		{takenOut(in(api.SVG, elem("u")), 2), api.ErrState, ""},
		{takenOut(elem("s"), 2), api.ErrState, ""},
		{takenOut(api.Node{}, 2), api.ErrState, ""},
		// Attrs: in their order; nothing else counts.
		{newAttrs(first.Attrs, attrs("z", "3"), 0), api.OK, "p[z=3]('a'b())<!n>u()"},
		{newAttrs(first.Attrs, turnedAttrs, 0), api.OK, "p[y=2][x=1]('a'b())<!n>u()"},
		{newAttrs(first.Attrs, nil, 0), api.OK, "p('a'b())<!n>u()"},
		{newAttrs(nil, attrs("z", "3"), 0, 1), api.OK, "p[x=1][y=2]('a'b[z=3]())<!n>u()"},
		{newAttrs([]api.Attr{}, attrs("z", "3"), 2), api.OK, "p[x=1][y=2]('a'b())<!n>u[z=3]()"},
		{Edit{What: Attrs, Way: way(2), Old: junk, New: with(elem("q", junk), "z", "3")}, api.OK, "p[x=1][y=2]('a'b())<!n>u[z=3]()"},
		{newAttrs(turnedAttrs, nil, 0), api.ErrState, ""},
		{newAttrs(first.Attrs[:1], nil, 0), api.ErrState, ""},
		{newAttrs(nil, nil, 0), api.ErrState, ""},
		{newAttrs(attrs("x", "1", "y", "3"), nil, 0), api.ErrState, ""},
		{newAttrs(attrs("x", "1"), nil, 2), api.ErrState, ""},
		{newAttrs(nil, nil, 3), api.ErrNone, ""},
		{newAttrs(nil, nil), api.ErrNone, ""},
		// Text: nothing else counts.
		{newText("n", "m", 1), api.OK, "p[x=1][y=2]('a'b())<!m>u()"},
		{newText("a", "", 0, 0), api.OK, "p[x=1][y=2](''b())<!n>u()"},
		{newText("", "t", 2), api.OK, "p[x=1][y=2]('a'b())<!n>ut()"},
		{Edit{What: Text, Way: way(1), Old: with(api.Node{Kind: 9, Space: 7, Name: "z", Text: "n", Kids: list(junk)}, "z", "3"), New: with(elem("q", junk), "z", "3")}, api.OK, "p[x=1][y=2]('a'b())<!>u()"},
		{newText("m", "n", 1), api.ErrState, ""},
		{newText("", "n", 1), api.ErrState, ""},
		{newText("n", "n", 2), api.ErrState, ""},
		{newText("", "", 3), api.ErrNone, ""},
		{newText("", "", 0, 2), api.ErrNone, ""},
		{newText("", ""), api.ErrNone, ""},
		// A What that is none, and several things at once.
		{Edit{Way: way(0), Old: first, New: first}, api.ErrForm, ""},
		{Edit{What: 5, Way: way(0), Old: first}, api.ErrForm, ""},
		{Edit{What: -1, Way: way(0), Old: first}, api.ErrForm, ""},
		{Edit{What: math.MaxInt}, api.ErrForm, ""},
		{Edit{What: math.MinInt, Way: way(7)}, api.ErrForm, ""},
		{Edit{What: 5, Old: junk}, api.ErrForm, ""},
		{Edit{What: 0, Way: way(7), Old: junk}, api.ErrForm, ""},
		{Edit{What: 5, Way: way(0), Old: junk}, api.ErrForm, ""},
		{Edit{What: TakenOut, Way: way(7), Old: junk}, api.ErrNone, ""},
		{Edit{What: Attrs, Way: way(0, 0, 0), Old: with(junk, "a", "b")}, api.ErrNone, ""},
		{Edit{What: Text, Old: junk}, api.ErrNone, ""},
	} {
		holdApply(t, l, script(x.edit), x.want, x.e)
	}
}

// holdApply asks for what a script makes of nodes, or its error alone.
func holdApply(t *testing.T, l []api.Node, s []Edit, want string, err api.Errno) {
	t.Helper()
	got, e := Apply(l, s)
	if show(got) != want || e != err || e != api.OK && len(got) != 0 {
		t.Errorf("%s makes of %s %s, %v; want %s, %v", tell(s), show(l), show(got), e, want, err)
	}
}

// Promise 21.1: scripts of several edits: each is applied to what the ones ahead made; of errors the first edit's counts.
func TestApplyOneBehindTheOther(t *testing.T) {
	l := list(p("a"))
	holdApply(t, l, nil, "p('a')", api.OK)
	holdApply(t, l, script(), "p('a')", api.OK)
	holdApply(t, nil, nil, "", api.OK)
	holdApply(t, nil, script(putIn(p("a"), 0), takenOut(p("a"), 0)), "", api.OK)
	holdApply(t, l, script(putIn(elem("i"), 0), newText("a", "b", 1, 0), takenOut(p("b"), 1)), "i()", api.OK)
	holdApply(t, l, script(newText("a", "b", 0, 0), newText("b", "c", 0, 0)), "p('c')", api.OK)
	holdApply(t, l, script(newText("a", "b", 0, 0), newText("a", "c", 0, 0)), "", api.ErrState)
	holdApply(t, l, script(takenOut(p("a"), 0), takenOut(p("a"), 0)), "", api.ErrNone)
	form, none, state, good := Edit{}, takenOut(p("a"), 5), takenOut(p("b"), 0), putIn(elem("i"), 1)
	errors := map[string]api.Errno{"form": api.ErrForm, "none": api.ErrNone, "state": api.ErrState}
	bad := map[string]Edit{"form": form, "none": none, "state": state}
	for one, x := range bad {
		for other, y := range bad {
			for _, s := range [][]Edit{{x, y}, {good, x, y}, {good, x, good, y}, {x, good, y, good}} {
				if got, e := Apply(l, s); len(got) != 0 || e != errors[one] {
					t.Errorf("%s ahead of %s: %s, %v", one, other, show(got), e)
				}
			}
		}
	}
}

// Promise 21.1: what is made may be more, and deeper, than pages may be.
func TestApplyBeyondLimits(t *testing.T) {
	most := many(api.MaxNodes, elem("b"))
	if l, e := Apply(most, script(putIn(elem("i"), api.MaxNodes))); len(l) != api.MaxNodes+1 || l[api.MaxNodes].Name != "i" || e != api.OK {
		t.Errorf("one too many: %d, %v", len(l), e)
	}
	to := make([]int, api.MaxDepth+1)
	if l, e := Apply(deep(api.MaxDepth), script(putIn(elem("i"), to...))); count(l) != api.MaxDepth+1 || e != api.OK {
		t.Errorf("one too deep: %s, %v", show(l), e)
	}
}

// Promises 21.1, 21.5: edits by chance, which fit or not, with junk in what does not count.
func TestApplyByChance(t *testing.T) {
	r := rand.New(rand.NewSource(211))
	seen := map[api.Errno]int{}
	for range 6000 {
		l := some(r, 2)
		page, e := copies(l), api.OK
		var s []Edit
		for range r.Intn(8) {
			x := someEdit(r, page)
			s = append(s, x)
			if next, e := plainApply(page, script(x)); e == api.OK {
				page = next
			}
		}
		want, err := plainApply(l, s)
		got, e := Apply(l, s)
		if !same(got, want) || e != err {
			t.Fatalf("%s makes of %s %s, %v; want %s, %v", tell(s), show(l), show(got), e, show(want), err)
		}
		seen[e]++
		for i := range len(s) + 1 {
			half, e := Apply(l, s[:i])
			if e == api.OK {
				half, e = Apply(half, s[i:])
			}
			if !same(half, want) || e != err {
				t.Fatalf("%s, cut at %d, makes of %s %s, %v; want %s, %v", tell(s), i, show(l), show(half), e, show(want), err)
			}
		}
	}
	for _, e := range []api.Errno{api.OK, api.ErrForm, api.ErrNone, api.ErrState} {
		if seen[e] < 50 {
			t.Errorf("%v was answered %d times: too few to tell", e, seen[e])
		}
	}
}

// Promises 21.1, 21.2: wrong nodes are taken as they are.
func TestWrongNodes(t *testing.T) {
	for _, l := range wrongs() {
		var s []Edit
		for i, n := range l {
			s = append(s, putIn(n, i))
		}
		if got, e := Apply(nil, s); !same(got, l) || e != api.OK {
			t.Errorf("put in: %s, %v; want %s", show(got), e, show(l))
		}
		if n := Size(s); n != count(l) {
			t.Errorf("Size of %s: %d", tell(s), n)
		}
		out := Script(l, nil)
		if got, e := Apply(l, out); len(got) != 0 || e != api.OK || Size(out) != count(l) {
			t.Errorf("taken out: %s, %v; %s, of size %d", show(got), e, tell(out), Size(out))
		}
		if !Same(s, roomyScript(s)) || Same(s, out) || Same(s, script(putIn(kind(98), 0))) {
			t.Errorf("Same of %s", tell(s))
		}
	}
}

// Promise 21.2: Size.
func TestSize(t *testing.T) {
	great := elem("p", text("a"), elem("b", elem("i"), elem("u", text("c"))))
	for _, x := range []struct {
		s    []Edit
		want int
	}{
		{nil, 0},
		{script(), 0},
		{script(putIn(text("a"), 0)), 1},
		{script(putIn(great, 0)), 6},
		{script(takenOut(great, 0)), 6},
		{script(newText("a", "b", 0)), 1},
		{script(newAttrs(attrs("a", "b", "c", "d"), nil, 0, 1, 2)), 1},
		// What does not count is not counted.
		{script(Edit{What: PutIn, Old: great, New: p("a")}), 2},
		{script(Edit{What: TakenOut, Old: p("a"), New: great}), 2},
		{script(Edit{What: Text, Old: great, New: great}), 1},
		{script(Edit{What: Attrs, Old: great, New: great}), 1},
		{script(Edit{What: PutIn}), 1},
		{script(Edit{What: TakenOut, New: great}), 1},
		// Others, whatever they are.
		{script(Edit{Old: great, New: great}), 1},
		{script(Edit{What: 5, Old: great, New: great}, Edit{What: -1}), 2},
		{script(putIn(great, 0), takenOut(p("a"), 1), newText("a", "b", 0), newAttrs(nil, nil, 0), Edit{What: 9}), 11},
		{script(putIn(elem("p", many(api.MaxNodes, p("a"))...), 0)), 2*api.MaxNodes + 1},
		{script(takenOut(deep(1000)[0], 0)), 1000},
		{slices.Repeat(script(putIn(great, 0), newText("a", "b", 0)), 500), 3500},
	} {
		if n := Size(x.s); n != x.want {
			t.Errorf("Size(%s): %d; want %d", tell(x.s), n, x.want)
		}
	}
}

// parts are edits that each differ from x in one part that counts.
func parts(x Edit) []Edit {
	var all []Edit
	vary := func(f func(y *Edit)) {
		y := roomyScript(script(x))[0]
		f(&y)
		all = append(all, y)
	}
	vary(func(y *Edit) { y.What = y.What%4 + 1 })
	vary(func(y *Edit) { y.What = 0 })
	vary(func(y *Edit) { y.Way = nil })
	vary(func(y *Edit) { y.Way = append(y.Way, 0) })
	vary(func(y *Edit) { y.Way = y.Way[1:] })
	for i := range x.Way {
		vary(func(y *Edit) { y.Way[i]++ })
	}
	for _, node := range []func(y *Edit) *api.Node{func(y *Edit) *api.Node { return &y.Old }, func(y *Edit) *api.Node { return &y.New }} {
		old := node(&x) == &x.Old
		if old && x.What == PutIn || !old && x.What == TakenOut {
			continue
		}
		if x.What != Attrs {
			vary(func(y *Edit) { node(y).Text += "z" })
		}
		if x.What != Text {
			vary(func(y *Edit) { node(y).Attrs = append(node(y).Attrs, api.Attr{}) })
			vary(func(y *Edit) { node(y).Attrs = node(y).Attrs[1:] })
			vary(func(y *Edit) { slices.Reverse(node(y).Attrs) })
			vary(func(y *Edit) { node(y).Attrs[1].Value += "z" })
			vary(func(y *Edit) { node(y).Attrs[0].Name += "z" })
		}
		if x.What == PutIn || x.What == TakenOut {
			vary(func(y *Edit) { node(y).Kind++ })
			vary(func(y *Edit) { node(y).Space++ })
			vary(func(y *Edit) { node(y).Name += "z" })
			vary(func(y *Edit) { node(y).Kids = nil })
			vary(func(y *Edit) { node(y).Kids[0].Text += "z" })
			vary(func(y *Edit) { node(y).Kids = append(node(y).Kids, junk) })
		}
	}
	return all
}

// Promise 21.2: scripts that differ in one part of one edit alone are not the same.
func TestSame(t *testing.T) {
	node := api.Node{Kind: 1, Name: "p", Attrs: attrs("a", "1", "b", "2"), Text: "t", Kids: list(text("k"))}
	for what := PutIn; what <= Text; what++ {
		x := Edit{What: what, Way: way(3, 1, 2), Old: node, New: node}
		if !Same(script(x), roomyScript(script(x))) {
			t.Errorf("Same of one edit, What %d: false", what)
		}
		others := parts(x)
		if len(others) < 9 {
			t.Fatalf("What %d: %d parts", what, len(others))
		}
		for i, y := range others {
			if Same(script(x), script(y)) || Same(script(y), script(x)) {
				t.Errorf("Same of %v and %v (part %d): true", x, y, i)
			}
			ahead, behind := putIn(elem("i"), 0), newText("a", "b", 1)
			if Same(script(ahead, x, behind), script(ahead, y, behind)) {
				t.Errorf("Same of %v and %v between others (part %d): true", x, y, i)
			}
			if !Same(script(ahead, y, behind), roomyScript(script(ahead, y, behind))) {
				t.Errorf("Same of %v and itself between others: false", y)
			}
		}
	}
}

// Promise 21.2: how many edits there are, and their order.
func TestSameLists(t *testing.T) {
	x, y := putIn(elem("i"), 0), newText("a", "b", 1)
	for _, l := range []struct {
		a, b []Edit
		want bool
	}{
		{nil, nil, true},
		{nil, script(), true},
		{nil, script(x), false},
		{script(x), nil, false},
		{script(x), script(x), true},
		{script(x, y), script(x, y), true},
		{script(x, y), script(y, x), false},
		{script(x, y), script(x), false},
		{script(x), script(x, y), false},
		{script(x, x), script(x), false},
		{script(Edit{Way: nil}), script(Edit{Way: way()}), true},
		{script(putIn(api.Node{Attrs: attrs(), Kids: list()}, 0)), script(putIn(api.Node{}, 0)), true},
		{script(newAttrs([]api.Attr{}, nil, 0)), script(newAttrs(nil, []api.Attr{}, 0)), true},
		// Edits of a What that is none: all that they have.
		{script(Edit{What: 7, Old: p("a")}), script(Edit{What: 7, Old: p("a")}), true},
		{script(Edit{What: 7, Old: p("a")}), script(Edit{What: 8, Old: p("a")}), false},
		{script(Edit{What: 7, Old: p("a")}), script(Edit{What: 7, Old: p("b")}), false},
		{script(Edit{What: 7, New: p("a")}), script(Edit{What: 7, New: p("b")}), false},
	} {
		if Same(l.a, l.b) != l.want || Same(l.b, l.a) != l.want {
			t.Errorf("Same(%s, %s): %v", tell(l.a), tell(l.b), !l.want)
		}
	}
}

// Promise 21.2, with the chapter's words: of nodes only what is told counts.
func TestSameInWhatCounts(t *testing.T) {
	node, other := with(elem("p", text("a")), "x", "1"), with(in(api.SVG, kind(5, junk)), "y", "2")
	other.Text = "t"
	for _, pair := range [][2]Edit{
		{{What: PutIn, Way: way(0), New: node}, {What: PutIn, Way: way(0), New: node, Old: other}},
		{{What: TakenOut, Way: way(0), Old: node}, {What: TakenOut, Way: way(0), Old: node, New: other}},
		{newText("t", "t", 0), {What: Text, Way: way(0), Old: other, New: other}},
		{newAttrs(other.Attrs, other.Attrs, 0), {What: Attrs, Way: way(0), Old: other, New: other}},
	} {
		a, b := script(pair[0]), script(pair[1])
		if !Same(a, b) || !Same(b, a) {
			t.Errorf("Same(%v, %v): false", a, b)
		}
	}
}

// Rule R3: what is handed in is as it was, spare room too; what is handed out is new memory, of which no two lists share any.
func TestNewMemory(t *testing.T) {
	r := rand.New(rand.NewSource(3))
	samples := append(pages(), smalls(2, heads()...)...)
	for range 300 {
		samples = append(samples, some(r, 3))
	}
	for i, a := range samples {
		if count(a) > 60 {
			continue
		}
		a, b := roomy(a), roomy(edited(r, a))
		if i%3 == 0 {
			b = roomy(samples[(i*7+1)%len(samples)])
		}
		wasA, wasB := wholeNodes(a), wholeNodes(b)
		asBefore := func(what string) {
			t.Helper()
			if wholeNodes(a) != wasA || wholeNodes(b) != wasB {
				t.Fatalf("%s: what was handed in was changed, or handed out: %s", what, show(a))
			}
		}
		s := roomyScript(Script(a, b))
		asBefore("Script")
		wasS := wholeScript(s)
		l, e := Apply(a, s)
		if e != api.OK || !same(l, b) {
			t.Fatalf("Apply: %s, %v", show(l), e)
		}
		Size(s)
		Same(s, Script(a, b))
		Apply(b, s)
		Apply(a, slices.Concat(s, script(Edit{})))
		asBefore("Apply")
		widen(l)
		if !same(l, b) {
			t.Fatalf("Apply: two lists of %s share memory", show(l))
		}
		spoil(l)
		empty, _ := Apply(a, nil)
		spoil(empty)
		asBefore("Apply, spoiled")
		if wholeScript(s) != wasS {
			t.Fatalf("Apply: the script was changed, or handed out: %s", wasS)
		}
		holdApart(t, a, b)
		asBefore("Script, spoiled")
	}
}

// holdApart asks that no two lists of a script share memory: of what is spoiled nothing else is.
func holdApart(t *testing.T, a, b []api.Node) {
	t.Helper()
	s := Script(a, b)
	want := roomyScript(s)
	at := 0
	spoilParts(s, func() {
		t.Helper()
		for i := range s {
			x, y := s[i], want[i]
			gone := i*2 < at-1
			if !gone && !plainSame(x.New, y.New) || i*2 >= at && (!plainSame(x.Old, y.Old) || !slices.Equal(x.Way, y.Way)) {
				t.Fatalf("two lists of %s share memory (edit %d, step %d)", tell(want), i, at)
			}
		}
		at++
	})
}

// Rule R3: nodes that share memory with each other, in a page and in a script.
func TestSharedMemory(t *testing.T) {
	kids := list(with(elem("b", text("x")), "k", "v"), text("y"))
	a := list(elem("p", kids...), elem("q", kids...))
	b := list(elem("p", kids...), elem("q", kids...), elem("r", kids...), elem("r", kids...))
	was := wholeNodes(a) + wholeNodes(b)
	s := Script(a, b)
	if tell(s) != "2+r(b[k=v]('x')'y') 3+r(b[k=v]('x')'y')" {
		t.Fatalf("Script: %s", tell(s))
	}
	l, e := Apply(a, s)
	if !same(l, b) || e != api.OK {
		t.Fatalf("Apply: %s, %v", show(l), e)
	}
	l, e = Apply(a, script(newText("x", "z", 0, 0, 0), newAttrs(kids[0].Attrs, nil, 1, 0), putIn(a[0], 1), takenOut(text("y"), 2, 1)))
	if show(l) != "p(b[k=v]('z')'y')p(b[k=v]('x')'y')q(b('x'))" || e != api.OK {
		t.Errorf("Apply: %s, %v", show(l), e)
	}
	spoil(l)
	holdApart(t, a, b)
	// One way, and one node, of several edits.
	w := way(0)
	twice := script(Edit{What: PutIn, Way: w, New: a[0]}, Edit{What: PutIn, Way: w, New: a[0]})
	l, _ = Apply(nil, twice)
	before := copies(l)
	widen(l)
	if !same(l, before) {
		t.Errorf("Apply: two lists share memory")
	}
	spoil(l)
	if wholeNodes(a)+wholeNodes(b) != was || fmt.Sprint(w) != "[0]" {
		t.Errorf("what was handed in was changed, or handed out")
	}
}

// Nodes that lie very deep in one another, and very many of them: each call ends, and does not take too long.
func TestVeryDeep(t *testing.T) {
	const far = 200000
	a, b := deep(far, text("a"), elem("i")), deep(far, text("b"), elem("i"))
	s := Script(a, b)
	if len(s) != 1 || s[0].What != Text || len(s[0].Way) != far+1 || s[0].Old.Text != "a" || s[0].New.Text != "b" {
		t.Fatalf("Script: %d edits", len(s))
	}
	l, e := Apply(a, s)
	if e != api.OK || len(Script(l, b)) != 0 {
		t.Errorf("Apply: %v", e)
	}
	out := Script(a, nil)
	if n := Size(out); n != far+2 || !Same(out, Script(a, nil)) || Same(out, Script(b, nil)) {
		t.Errorf("Size: %d", n)
	}
	if l, e := Apply(a, out); len(l) != 0 || e != api.OK {
		t.Errorf("Apply: %d, %v", len(l), e)
	}
	if l, e := Apply(b, out); len(l) != 0 || e != api.ErrState {
		t.Errorf("Apply of what is not there: %d, %v", len(l), e)
	}
}
