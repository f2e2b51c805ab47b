package turn

import (
	"math"
	"math/rand"
	"slices"
	"testing"

	"recto/api"
	"recto/edit"
)

// The document's example.
func TestExample(t *testing.T) {
	if s := Short(script(putIn(text("x"), 0), takenOut(text("x"), 0))); len(s) != 0 {
		t.Errorf("Short: %s", tell(s))
	}
}

// Promise 22.1: scripts turned about, told by hand.
func TestAbout(t *testing.T) {
	k, m := attrs("k", "v"), attrs("m", "w", "k", "v")
	for _, x := range []struct{ s, want []edit.Edit }{
		{nil, nil},
		{script(), nil},
		{script(putIn(p("a"), 0)), script(takenOut(p("a"), 0))},
		{script(takenOut(p("a"), 1, 2)), script(putIn(p("a"), 1, 2))},
		{script(newText("a", "b", 0)), script(newText("b", "a", 0))},
		{script(newAttrs(k, m, 0)), script(newAttrs(m, k, 0))},
		{script(newAttrs(nil, k, 3)), script(newAttrs(k, nil, 3))},
		{
			script(putIn(p("a"), 0), newText("a", "b", 0, 0), takenOut(note("n"), 1), newAttrs(k, nil, 2)),
			script(newAttrs(nil, k, 2), putIn(note("n"), 1), newText("b", "a", 0, 0), takenOut(p("a"), 0)),
		},
		// The same edit twice, and edits with no way, or one that leads nowhere.
		{script(putIn(p("a"), 0), putIn(p("a"), 0)), script(takenOut(p("a"), 0), takenOut(p("a"), 0))},
		{script(putIn(p("a")), takenOut(p("b"), -1)), script(putIn(p("b"), -1), takenOut(p("a")))},
		// What does not count changes its place with the rest.
		{
			script(edit.Edit{What: edit.PutIn, Way: way(0), Old: junk, New: p("a")}),
			script(edit.Edit{What: edit.TakenOut, Way: way(0), Old: p("a"), New: junk}),
		},
		{
			script(edit.Edit{What: edit.Text, Way: way(0), Old: junk, New: p("a")}),
			script(edit.Edit{What: edit.Text, Way: way(0), Old: p("a"), New: junk}),
		},
		// A What that is none stays.
		{script(odd(0, p("a"), p("b"), 1), odd(5, text("c"), junk)), script(odd(5, junk, text("c")), odd(0, p("b"), p("a"), 1))},
		{script(odd(-1, p("a"), p("b")), odd(math.MaxInt, p("a"), p("b"))), script(odd(math.MaxInt, p("b"), p("a")), odd(-1, p("b"), p("a")))},
	} {
		if s := About(x.s); !exact(s, x.want) {
			t.Errorf("About(%s): %s; want %s", tell(x.s), tell(s), tell(x.want))
		}
		holdTwice(t, x.s)
	}
}

// holdTwice asks that a script that is turned about twice is itself, with all that it has.
func holdTwice(t *testing.T, s []edit.Edit) {
	t.Helper()
	if twice := About(About(s)); !exact(twice, s) {
		t.Fatalf("About(About(%s)): %s", tell(s), tell(twice))
	}
}

// holdBack asks that a script that makes b of a, turned about, makes a of b, and that the two of them fit.
func holdBack(t *testing.T, a, b []api.Node, s []edit.Edit) {
	t.Helper()
	about := About(s)
	if l, e := edit.Apply(b, about); !same(l, a) || e != api.OK {
		t.Fatalf("%s, turned about, makes of %s %s, %v; want %s", tell(s), show(b), show(l), e, show(a))
	}
	if l, e := edit.Apply(a, slices.Concat(s, about, s)); !same(l, b) || e != api.OK {
		t.Fatalf("%s, there, back, and there again, makes of %s %s, %v; want %s", tell(s), show(a), show(l), e, show(b))
	}
	if left := Join(s, about); len(left) != 0 {
		t.Fatalf("%s, joined with itself turned about: %s", tell(s), tell(left))
	}
}

// Promises 22.3, 22.4: scripts between pages of all sorts.
func TestBackBetweenPages(t *testing.T) {
	for _, a := range pages() {
		for _, b := range pages() {
			s := edit.Script(a, b)
			holdBack(t, a, b, s)
			holdTwice(t, s)
		}
	}
}

// Promises 22.1, 22.3, 22.4: scripts by chance.
func TestAboutByChance(t *testing.T) {
	r := rand.New(rand.NewSource(22))
	for range 3000 {
		a := some(r, 1)
		s, b := someFit(r, a)
		holdBack(t, a, b, s)
		holdTwice(t, s)
		s = someScript(r)
		if got, want := About(s), plainAbout(s); !exact(got, want) {
			t.Fatalf("About(%s): %s; want %s", tell(s), tell(got), tell(want))
		}
		holdTwice(t, s)
	}
}

// Promise 22.1: scripts shortened, told by hand.
func TestShort(t *testing.T) {
	in, out := putIn(p("a"), 0), takenOut(p("a"), 0)
	k, m := attrs("k", "v"), attrs("k", "v", "m", "w")
	turned := attrs("m", "w", "k", "v")
	at := func(s ...[]edit.Edit) []edit.Edit { return slices.Concat(s...) }
	for _, x := range []struct {
		s    []edit.Edit
		want string
	}{
		// Nothing to do.
		{nil, ""},
		{script(), ""},
		{script(in), "0+p('a')"},
		{texts("ab", 0), "0~a>b"},
		{script(in, in), "0+p('a') 0+p('a')"},
		{script(out, out), "0-p('a') 0-p('a')"},
		// They cancel: each What, both ways round.
		{script(in, out), ""},
		{script(out, in), ""},
		{texts("aba", 0), ""},
		{script(newAttrs(k, m, 0), newAttrs(m, k, 0)), ""},
		{script(newAttrs(nil, m, 0), newAttrs(m, []api.Attr{}, 0)), ""},
		{script(odd(7, p("a"), p("b"), 0), odd(7, p("b"), p("a"), 0)), ""},
		{script(odd(0, api.Node{}, api.Node{}), odd(0, api.Node{}, api.Node{})), ""},
		{script(putIn(p("a")), takenOut(p("a"))), ""},
		// They don't: another way, another node, another part of it, not side by side.
		{script(in, takenOut(p("a"), 1)), "0+p('a') 1-p('a')"},
		{script(in, takenOut(p("a"), 0, 0)), "0+p('a') 0.0-p('a')"},
		{script(in, takenOut(p("b"), 0)), "0+p('a') 0-p('b')"},
		{script(in, takenOut(with(p("a"), "k", "v"), 0)), "0+p('a') 0-p[k=v]('a')"},
		{script(putIn(with(p("a"), "k", "v", "m", "w"), 0), takenOut(with(p("a"), "m", "w", "k", "v"), 0)), "0+p[k=v][m=w]('a') 0-p[m=w][k=v]('a')"},
		{script(in, putIn(text("x"), 1), out), "0+p('a') 1+'x' 0-p('a')"},
		{script(newText("a", "b", 0), newText("b", "a", 1)), "0~a>b 1~b>a"},
		{script(newText("a", "b", 0), newText("c", "a", 0)), "0~a>b 0~c>a"},
		{script(newText("a", "b", 0), newText("a", "b", 0)), "0~a>b 0~a>b"},
		{script(newAttrs(k, m, 0), newAttrs(turned, k, 0)), "0@[k=v]>[k=v][m=w] 0@[m=w][k=v]>[k=v]"},
		{script(odd(7, p("a"), p("b"), 0), odd(8, p("b"), p("a"), 0)), "0?7p('a')>p('b') 0?8p('b')>p('a')"},
		{script(odd(7, p("a"), p("b"), 0), odd(7, p("a"), p("b"), 0)), "0?7p('a')>p('b') 0?7p('a')>p('b')"},
		// They melt: Texts and Attrs, two and more.
		{texts("abc", 0), "0~a>c"},
		{texts("abcde", 2, 1), "2.1~a>e"},
		{script(newAttrs(nil, k, 0), newAttrs(k, m, 0)), "0@>[k=v][m=w]"},
		{script(newAttrs(k, m, 0), newAttrs(m, turned, 0)), "0@[k=v]>[m=w][k=v]"},
		{script(newAttrs(k, nil, 0), newAttrs([]api.Attr{}, m, 0)), "0@[k=v]>[k=v][m=w]"},
		{at(texts("abc", 0), texts("abc", 1)), "0~a>c 1~a>c"},
		{texts("abc"), "~a>c"},
		// They don't: another way, another What, other Texts, other edits, not side by side.
		{script(newText("a", "b", 0), newText("b", "c", 1)), "0~a>b 1~b>c"},
		{script(newText("a", "b", 0), newText("b", "c", 0, 0)), "0~a>b 0.0~b>c"},
		{script(newText("a", "b", 0), newText("b", "c")), "0~a>b ~b>c"},
		{script(newText("", "", 0), newAttrs(nil, nil, 0)), "0~> 0@>"},
		{script(newText("a", "", 0), newAttrs(nil, k, 0), newText("", "b", 0)), "0~a> 0@>[k=v] 0~>b"},
		{texts("ab cd", 0), "0~a>b 0~c>d"},
		{script(newAttrs(k, m, 0), newAttrs(turned, nil, 0)), "0@[k=v]>[k=v][m=w] 0@[m=w][k=v]>"},
		{script(putIn(text("a"), 0), newText("a", "b", 0)), "0+'a' 0~a>b"},
		{script(newText("a", "b", 0), takenOut(text("b"), 0)), "0~a>b 0-'b'"},
		{script(out, putIn(p("b"), 0)), "0-p('a') 0+p('b')"},
		{script(odd(7, p("a"), p("b"), 0), odd(7, p("b"), p("c"), 0)), "0?7p('a')>p('b') 0?7p('b')>p('c')"},
		// They cancel only when others did; some, and all.
		{script(in, putIn(text("x"), 1), takenOut(text("x"), 1), out), ""},
		{at(script(in), texts("aba", 1), script(newAttrs(k, m, 2), newAttrs(m, k, 2)), script(out)), ""},
		{at(texts("ab", 0), script(in, out), texts("ba", 0), script(in)), "0+p('a')"},
		{script(in, out, in, out, in), "0+p('a')"},
		{script(in, in, out, out, out), "0-p('a')"},
		// They melt only when others cancelled, or melted.
		{at(texts("ab", 0), script(in, out), texts("bc", 0)), "0~a>c"},
		{at(texts("ab", 0), texts("xyzx", 1), texts("bc", 0)), "0~a>c"},
		// They cancel only when others melted.
		{texts("abca", 0), ""},
		{texts("abcda", 0), ""},
		{script(newAttrs(nil, k, 0), newAttrs(k, m, 0), newAttrs(m, nil, 0)), ""},
		{at(script(in), texts("abca", 1), script(out)), ""},
		{at(texts("ab", 0), texts("xyzx", 1), texts("ba", 0)), ""},
		{at(texts("xy", 0), script(in), texts("abca", 1), script(out), texts("yz", 0)), "0~x>z"},
		// They cancel ahead of melting, wherever they stand: so what would melt to nothing stays.
		{texts("aa", 0), "0~a>a"},
		{texts("aaa", 0), ""},
		{texts("aaaa", 0), "0~a>a"},
		{texts("aaba", 0), "0~a>a"},
		{texts("abaa", 0), "0~a>a"},
		{texts("aabcba", 0), "0~a>a"},
		{texts("aabca", 0), ""},
		{texts("abba", 0), ""},
		{texts("abbc", 0), "0~a>c"},
		{texts("aab", 0), "0~a>b"},
		{at(texts("abc", 0), texts("aba", 1)), "0~a>c"},
		{at(texts("aa", 0), script(in, out), texts("aba", 0)), "0~a>a"},
		{script(newAttrs(k, k, 0), newAttrs(k, m, 0), newAttrs(m, k, 0)), "0@[k=v]>[k=v]"},
		{script(newAttrs(nil, nil, 0)), "0@>"},
	} {
		s := Short(x.s)
		if got := tell(s); got != x.want {
			t.Errorf("Short(%s): %s; want %s", tell(x.s), got, x.want)
		}
		holdShort(t, x.s)
	}
}

// Promise 22.1: what is left has all that it had; of edits only what is told counts.
func TestShortInWhatCounts(t *testing.T) {
	a, b, c := with(p("k"), "x", "1"), with(kind(7, junk), "x", "2"), with(note(""), "y", "3")
	a.Text, b.Text, c.Text = "a", "b", "c"
	full := func(what int, was, is api.Node) edit.Edit { return odd(what, was, is, 0) }
	for _, x := range []struct{ s, want []edit.Edit }{
		{script(full(edit.Text, a, b), full(edit.Text, with(b, "z", "4"), c)), script(full(edit.Text, a, c))},
		{script(full(edit.Attrs, a, b), full(edit.Attrs, with(text("t"), "x", "2"), c)), script(full(edit.Attrs, a, c))},
		{script(full(edit.Text, a, b), newText("b", "a", 0)), nil},
		{script(full(edit.Attrs, a, b), newAttrs(b.Attrs, a.Attrs, 0)), nil},
		{script(full(edit.PutIn, junk, a), takenOut(a, 0)), nil},
		{script(full(edit.TakenOut, a, junk), putIn(a, 0)), nil},
		{script(full(edit.PutIn, a, b), full(edit.TakenOut, c, a)), script(full(edit.PutIn, a, b), full(edit.TakenOut, c, a))},
		// The first one that cancels is taken out with the one behind it, so the third one is left.
		{script(full(edit.PutIn, a, c), full(edit.TakenOut, c, a), full(edit.PutIn, b, c)), script(full(edit.PutIn, b, c))},
		{script(full(edit.Text, a, c), full(edit.Text, c, a), full(edit.Text, a, with(c, "z", "4"))), script(full(edit.Text, a, with(c, "z", "4")))},
	} {
		if s := Short(x.s); !exact(s, x.want) {
			t.Errorf("Short(%v): %v; want %v", x.s, s, x.want)
		}
		holdShort(t, x.s)
	}
}

// holdShort asks for a script, shortened as the chapter tells it, which is not longer, and of which nothing is left to shorten.
func holdShort(t *testing.T, s []edit.Edit) {
	t.Helper()
	got, want := Short(s), plainShort(s)
	if !exact(got, want) {
		t.Fatalf("Short(%s): %s; want %s", tell(s), tell(got), tell(want))
	}
	if len(got) > len(s) || edit.Size(got) > edit.Size(s) {
		t.Fatalf("Short(%s): %s is longer", tell(s), tell(got))
	}
	if again := Short(got); !exact(again, got) {
		t.Fatalf("Short(%s): %s", tell(got), tell(again))
	}
}

// allScripts hands see all scripts of at most n edits, each of which is one of some.
func allScripts(n int, some []edit.Edit, see func(s []edit.Edit)) {
	var begun []edit.Edit
	var further func(left int)
	further = func(left int) {
		see(begun)
		if left == 0 {
			return
		}
		for _, x := range some {
			begun = append(begun, x)
			further(left - 1)
			begun = begun[:len(begun)-1]
		}
	}
	further(n)
}

// Promises 22.1, 22.5: all scripts that are small.
func TestAllShortScripts(t *testing.T) {
	allScripts(7, texts("aba aa bc", 0), func(s []edit.Edit) { holdShort(t, s) })
	allScripts(5, slices.Concat(texts("abca ba", 0), texts("ab", 1), script(putIn(p("a"), 0), takenOut(p("a"), 0))), func(s []edit.Edit) { holdShort(t, s) })
	k := attrs("k", "v")
	allScripts(5, script(newAttrs(nil, k, 0), newAttrs(k, nil, 0), newAttrs(nil, nil, 0), newText("", "", 0), newText("", "a", 0), odd(7, p("a"), p("b"), 0), odd(7, p("b"), p("a"), 0)), func(s []edit.Edit) { holdShort(t, s) })
}

// Promises 22.1, 22.5: scripts by chance, with junk in what does not count.
func TestShortByChance(t *testing.T) {
	r := rand.New(rand.NewSource(221))
	left := 0
	for range 20000 {
		s := someScript(r)
		holdShort(t, s)
		left += len(s) - len(Short(s))
	}
	if left < 20000 {
		t.Errorf("%d edits were saved: too few to tell", left)
	}
}

// holdMakes asks that a script, shortened, makes the same of a page that it fits.
func holdMakes(t *testing.T, l []api.Node, s []edit.Edit) bool {
	t.Helper()
	want, err := edit.Apply(l, s)
	if err != api.OK {
		return false
	}
	if got, e := edit.Apply(l, Short(s)); !same(got, want) || e != api.OK {
		t.Fatalf("Short(%s) makes of %s %s, %v; want %s", tell(s), show(l), show(got), e, show(want))
	}
	return true
}

// Promise 22.5: what is shortened makes the same of whatever it fits.
func TestShortMakesTheSame(t *testing.T) {
	r := rand.New(rand.NewSource(225))
	others, saved := 0, 0
	for range 4000 {
		a := some(r, 1)
		s, b := someFit(r, a)
		if !holdMakes(t, a, s) {
			t.Fatalf("%s does not fit %s", tell(s), show(a))
		}
		saved += len(s) - len(Short(s))
		holdShort(t, s)
		// From page to page, there and back, and on.
		c := some(r, 1)
		all := slices.Concat(edit.Script(a, b), edit.Script(b, c), edit.Script(c, b), edit.Script(b, a), edit.Script(a, c))
		holdShort(t, all)
		if !holdMakes(t, a, all) {
			t.Fatalf("%s does not fit %s", tell(all), show(a))
		}
		// Another page, which it fits by chance.
		if other := append(a, one(r)); holdMakes(t, other, s) || holdMakes(t, some(r, 1), s) {
			others++
		}
	}
	if others < 500 || saved < 500 {
		t.Errorf("%d other pages, %d edits saved: too few to tell", others, saved)
	}
	for _, a := range pages() {
		for _, b := range pages() {
			holdMakes(t, a, slices.Concat(edit.Script(a, b), edit.Script(b, a)))
		}
	}
}

// Promise 22.1: scripts joined.
func TestJoin(t *testing.T) {
	for _, x := range []struct {
		s, t []edit.Edit
		want string
	}{
		{nil, nil, ""},
		{script(), nil, ""},
		{nil, texts("ab", 0), "0~a>b"},
		{texts("ab", 0), nil, "0~a>b"},
		{texts("ab", 0), texts("cd", 0), "0~a>b 0~c>d"},
		{texts("ab", 0), texts("ab", 1), "0~a>b 1~a>b"},
		{texts("ab", 1), texts("ab", 0), "1~a>b 0~a>b"},
		// At the seam, and within each one.
		{texts("ab", 0), texts("ba", 0), ""},
		{texts("ab", 0), texts("bc", 0), "0~a>c"},
		{texts("abc", 0), texts("cd", 0), "0~a>d"},
		{texts("abc", 0), texts("ca", 0), ""},
		{texts("aba", 0), texts("abc", 1), "1~a>c"},
		{script(putIn(p("a"), 0), newText("a", "b", 0, 0)), script(newText("b", "a", 0, 0), takenOut(p("a"), 0)), ""},
		// Cancelling ahead of melting, over both of them.
		{texts("aa", 0), texts("aba", 0), "0~a>a"},
		{texts("aab", 0), texts("ba", 0), "0~a>a"},
	} {
		if got := tell(Join(x.s, x.t)); got != x.want {
			t.Errorf("Join(%s, %s): %s; want %s", tell(x.s), tell(x.t), got, x.want)
		}
	}
	r := rand.New(rand.NewSource(223))
	for range 3000 {
		s, u := someScript(r), someScript(r)
		if got, want := Join(s, u), plainShort(slices.Concat(s, u)); !exact(got, want) {
			t.Fatalf("Join(%s, %s): %s; want %s", tell(s), tell(u), tell(got), tell(want))
		}
		if got := Join(s, s); !exact(got, plainShort(slices.Concat(s, s))) {
			t.Fatalf("Join of %s and itself: %s", tell(s), tell(got))
		}
	}
}

// Promise 22.2: all pages on the way, told by hand.
func TestSteps(t *testing.T) {
	l := list(p("a"))
	good := script(putIn(elem("i"), 1), newText("a", "b", 0, 0), newAttrs(nil, attrs("k", "v"), 1), takenOut(p("b"), 0))
	for _, x := range []struct {
		l    []api.Node
		s    []edit.Edit
		want []string
	}{
		{nil, nil, []string{""}},
		{list(), script(), []string{""}},
		{l, nil, []string{"p('a')"}},
		{l, good, []string{"p('a')", "p('a')i()", "p('b')i()", "p('b')i[k=v]()", "i[k=v]()"}},
		// Nothing is shortened.
		{nil, script(putIn(text("x"), 0), takenOut(text("x"), 0)), []string{"", "'x'", ""}},
		{list(text("a")), texts("aaba", 0), []string{"'a'", "'a'", "'b'", "'a'"}},
	} {
		got, e := Steps(x.l, x.s)
		if !slices.EqualFunc(got, x.want, func(l []api.Node, s string) bool { return show(l) == s }) || e != api.OK {
			t.Errorf("Steps(%s, %s): %v, %v; want %q", show(x.l), tell(x.s), got, e, x.want)
		}
	}
	for e, bad := range map[api.Errno]edit.Edit{api.ErrForm: odd(5, junk, junk), api.ErrNone: takenOut(p("a"), 7), api.ErrState: neverThere()} {
		for i := range len(good) + 1 {
			s := slices.Insert(slices.Clone(good), i, bad)
			if got, err := Steps(l, s); len(got) != 0 || err != e {
				t.Errorf("Steps(%s, %s): %v, %v; want %v", show(l), tell(s), got, err, e)
			}
		}
		for other, second := range map[api.Errno]edit.Edit{api.ErrForm: odd(0, junk, junk), api.ErrNone: putIn(junk), api.ErrState: neverThere()} {
			if got, err := Steps(l, script(good[0], bad, second)); len(got) != 0 || err != e {
				t.Errorf("%v ahead of %v: %v, %v", e, other, got, err)
			}
		}
	}
}

// neverThere is an edit that finds its way where there are first nodes, and never what was there.
func neverThere() edit.Edit { return takenOut(kind(98), 0) }

// Promise 22.2: pages on the way are what the edits up to there make; edit.Apply's error.
func TestStepsByChance(t *testing.T) {
	r := rand.New(rand.NewSource(222))
	seen := map[api.Errno]int{}
	for range 4000 {
		l := some(r, 1)
		s, _ := someFit(r, l)
		if r.Intn(3) == 0 && len(s) > 0 {
			x := &s[r.Intn(len(s))]
			*x = edit.Edit{What: x.What + r.Intn(3)/2, Way: slices.Clone(x.Way), Old: x.New, New: x.Old}
			x.Way[len(x.Way)-1] += r.Intn(5) / 3
		}
		got, e := Steps(l, s)
		_, err := edit.Apply(l, s)
		seen[e]++
		if e != err || e != api.OK && len(got) != 0 || e == api.OK && len(got) != len(s)+1 {
			t.Fatalf("Steps(%s, %s): %d pages, %v; want %v", show(l), tell(s), len(got), e, err)
		}
		for i := range got {
			if want, e := edit.Apply(l, s[:i]); !same(got[i], want) || e != api.OK {
				t.Fatalf("Steps(%s, %s): %s at %d; want %s", show(l), tell(s), show(got[i]), i, show(want))
			}
		}
	}
	for _, e := range []api.Errno{api.OK, api.ErrForm, api.ErrNone, api.ErrState} {
		if seen[e] < 20 {
			t.Errorf("%v was answered %d times: too few to tell", e, seen[e])
		}
	}
}

// Promise 22.2: Touched.
func TestTouched(t *testing.T) {
	k := attrs("k", "v")
	for _, x := range []struct {
		s    []edit.Edit
		want int
	}{
		{nil, 0},
		{script(), 0},
		{script(putIn(p("a"), 0), takenOut(p("b"), 1)), 0},
		{texts("ab", 0), 1},
		{script(newAttrs(nil, k, 0)), 1},
		// One What and one way; one way and another What; one What and another way.
		{texts("abc", 0), 1},
		{texts("ab ab xy", 0), 1},
		{script(newAttrs(nil, k, 0), newAttrs(k, nil, 0)), 1},
		{script(newText("a", "b", 0), newAttrs(nil, k, 0)), 2},
		{script(newText("a", "b", 0), newText("a", "b", 1)), 2},
		{script(newAttrs(nil, k, 0), newAttrs(nil, k, 0, 0)), 2},
		{script(newText("a", "b", 0), newAttrs(nil, k, 0), newText("b", "c", 0), newAttrs(k, nil, 0), newText("a", "b", 1)), 3},
		// Others between them, of the same way, are not counted, and change nothing.
		{script(newText("a", "b", 0), putIn(p("x"), 0), newText("c", "d", 0), takenOut(p("x"), 0)), 1},
		{script(odd(0, junk, junk, 0), odd(5, junk, junk, 1), odd(-3, junk, junk, 2), odd(math.MaxInt, junk, junk)), 0},
		// What would cancel counts.
		{texts("aba", 0), 1},
		// Ways that could run into one another.
		{script(newText("", "", 1, 2), newText("", "", 12), newText("", "", 1, 2, 0), newText("", "", 1), newText("", "", 1, 2)), 4},
		{script(newText("", "", 0), newText("", ""), newText("", "", 0, 0), edit.Edit{What: edit.Text, Way: way()}), 3},
		{script(newText("", "", -1), newText("", "", 1), newText("", "", math.MinInt), newText("", "", math.MaxInt), newText("", "", 1, -1), newText("", "", 11)), 6},
		{script(newText("", "", 4), newAttrs(nil, nil, 4), newText("", "", 3), newAttrs(nil, nil, 3), newText("", "", 3, 4), newText("", "", 4, 3)), 6},
	} {
		if n := Touched(x.s); n != x.want || n != plainTouched(x.s) {
			t.Errorf("Touched(%s): %d; want %d", tell(x.s), n, x.want)
		}
	}
	r := rand.New(rand.NewSource(224))
	for range 5000 {
		s := someScript(r)
		if n, want := Touched(s), plainTouched(s); n != want {
			t.Fatalf("Touched(%s): %d; want %d", tell(s), n, want)
		}
	}
}

// Promises 22.1, 22.2: wrong nodes are taken as they are.
func TestWrongNodes(t *testing.T) {
	for _, l := range wrongs() {
		var s, back []edit.Edit
		for i, n := range l {
			s = append(s, putIn(n, i))
			back = append(script(takenOut(n, i)), back...)
		}
		if got := About(s); !exact(got, back) {
			t.Errorf("About(%s): %s", tell(s), tell(got))
		}
		if got := Short(slices.Concat(s, back)); len(got) != 0 {
			t.Errorf("Short: %s", tell(got))
		}
		if got := Join(back, s); len(got) != 0 {
			t.Errorf("Join: %s", tell(got))
		}
		if got, e := Steps(nil, s); len(got) != len(l)+1 || !same(got[len(l)], l) || e != api.OK {
			t.Errorf("Steps: %v, %v", got, e)
		}
		if got, e := Steps(l, back); len(got) != len(l)+1 || !same(got[0], l) || len(got[len(l)]) != 0 || e != api.OK {
			t.Errorf("Steps: %v, %v", got, e)
		}
		if n := Touched(script(odd(edit.Text, l[0], l[0], 0), odd(edit.Attrs, l[0], l[0], 0))); n != 2 {
			t.Errorf("Touched: %d", n)
		}
	}
}

// Rule R3: what is handed in is as it was, spare room too; what is handed out is new memory, of which no two lists share any.
func TestNewMemory(t *testing.T) {
	r := rand.New(rand.NewSource(3))
	for i := range 1500 {
		l := roomy(some(r, 1))
		s, _ := someFit(r, l)
		u := someScript(r)
		if i%2 == 0 {
			s, u = u, s
		}
		s, u = roomyScript(s), roomyScript(u)
		wasL, wasS, wasU := wholeNodes(l), wholeScript(s), wholeScript(u)
		asBefore := func(what string) {
			t.Helper()
			if wholeNodes(l) != wasL || wholeScript(s) != wasS || wholeScript(u) != wasU {
				t.Fatalf("%s: what was handed in was changed, or handed out: %s, %s", what, tell(s), tell(u))
			}
		}
		holdApart(t, "About", About(s))
		asBefore("About")
		holdApart(t, "Short", Short(s))
		asBefore("Short")
		holdApart(t, "Join", Join(s, u))
		asBefore("Join")
		holdApart(t, "Join", Join(s[:0], s))
		asBefore("Join")
		Touched(s)
		asBefore("Touched")
		holdPagesApart(t, l, s)
		holdPagesApart(t, l, u)
		holdPagesApart(t, l, nil)
		asBefore("Steps")
	}
}

// holdApart spoils a script edit by edit, and asks that each one was as it should be till then; so are an edit's own lists.
func holdApart(t *testing.T, what string, s []edit.Edit) {
	t.Helper()
	want := roomyScript(s)
	for i := range s[len(s):cap(s)] {
		s[len(s):cap(s)][i] = edit.Edit{What: 99}
	}
	for i, x := range s {
		if !exactEdit(x, want[i]) {
			t.Fatalf("%s: edit %d of %s shares memory with one ahead of it", what, i, tell(want))
		}
		spoilEdit(edit.Edit{Way: x.Way, Old: x.Old})
		if !sameNode(x.New, want[i].New) {
			t.Fatalf("%s: Old and New of edit %d of %s share memory", what, i, tell(want))
		}
		spoilEdit(edit.Edit{New: x.New})
	}
}

// holdPagesApart spoils pages on the way one by one, and asks that each one was as it should be till then.
func holdPagesApart(t *testing.T, l []api.Node, s []edit.Edit) {
	t.Helper()
	got, _ := Steps(l, s)
	var want [][]api.Node
	for _, page := range got {
		want = append(want, roomy(page))
	}
	for i := range got[len(got):cap(got)] {
		got[len(got):cap(got)][i] = list(junk)
	}
	for i, page := range got {
		if !same(page, want[i]) {
			t.Fatalf("Steps(%s, %s): page %d shares memory with one ahead of it", show(l), tell(s), i)
		}
		spoil(page)
	}
}

// Rule R3: edits that share memory with each other, and with the page.
func TestSharedMemory(t *testing.T) {
	kids := list(with(elem("b", text("x")), "k", "v"), text("y"))
	n, w := with(elem("p", kids...), "k", "v"), way(0)
	l := list(n)
	s := script(odd(edit.TakenOut, n, n, w...), odd(edit.PutIn, n, n, w...), odd(edit.Attrs, n, n, w...), odd(edit.PutIn, n, n, w...))
	for i := range s {
		s[i].Way = w
	}
	was := wholeNodes(l) + wholeScript(s)
	holdApart(t, "About", About(s))
	holdApart(t, "Short", Short(s[1:]))
	holdApart(t, "Join", Join(s, s))
	holdApart(t, "Join", Join(s[2:], s[2:]))
	holdPagesApart(t, l, s)
	if wholeNodes(l)+wholeScript(s) != was {
		t.Errorf("what was handed in was changed, or handed out")
	}
}

// Rule R2: nil and empty lists are the same.
func TestNilAndEmpty(t *testing.T) {
	empty := api.Node{Attrs: []api.Attr{}, Kids: list()}
	s := script(edit.Edit{What: edit.PutIn, New: api.Node{}}, edit.Edit{What: edit.TakenOut, Way: way(), Old: empty})
	if got := Short(s); len(got) != 0 {
		t.Errorf("Short: %v", got)
	}
	s = script(edit.Edit{What: edit.Attrs, New: api.Node{}}, edit.Edit{What: edit.Attrs, Way: way(), Old: empty, New: with(junk, "k", "v")})
	if got := Short(s); len(got) != 1 || !slices.Equal(got[0].New.Attrs, attrs("k", "v")) {
		t.Errorf("Short: %v", got)
	}
	if n := Touched(s); n != 1 {
		t.Errorf("Touched: %d", n)
	}
}

// Very long scripts, and nodes that lie very deep in one another: each call ends, and does not take too long.
func TestVeryLongAndDeep(t *testing.T) {
	const often, far = 50000, 200000
	long := slices.Repeat(texts("abc", 0), often)
	if s := Short(long); len(s) != often || tell(s[:1]) != "0~a>c" {
		t.Errorf("Short: %d edits", len(s))
	}
	if s := Short(slices.Repeat(texts("ab bca", 0), often)); len(s) != 0 {
		t.Errorf("Short: %d edits", len(s))
	}
	if s := Join(long, About(long)); len(s) != 0 {
		t.Errorf("Join: %d edits", len(s))
	}
	if n := Touched(long); n != 1 {
		t.Errorf("Touched: %d", n)
	}
	in := putIn(deep(far, text("a"))[0], 0)
	out := takenOut(deep(far, text("a"))[0], 0)
	if s := Short(script(in, out, in)); len(s) != 1 {
		t.Errorf("Short: %d edits", len(s))
	}
	if s := About(script(in, out)); len(s) != 2 || !edit.Same(s, script(in, out)) {
		t.Errorf("About: %d edits", len(s))
	}
	if l, e := Steps(nil, script(in, out, in)); len(l) != 4 || len(l[2]) != 0 || len(l[3]) != 1 || e != api.OK {
		t.Errorf("Steps: %d pages, %v", len(l), e)
	}
}
