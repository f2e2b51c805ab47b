package words

import (
	"math/rand"
	"slices"
	"strings"
	"testing"

	"recto/api"
	"recto/print"
)

// The document's example.
func TestExample(t *testing.T) {
	want := pieces(same("a "), gone("b"), come("x"), same(" c"))
	if l := Texts("a b c", "a x c"); !slices.Equal(l, want) {
		t.Errorf("Texts: %s; want %s", tell(l), tell(want))
	}
}

// The constants are the chapter's.
func TestConstants(t *testing.T) {
	if Most != 400 || Same != 1 || Gone != 2 || Come != 3 {
		t.Errorf("Most %d, Same %d, Gone %d, Come %d", Most, Same, Gone, Come)
	}
}

// Promise 24.1: a text's words, told by hand.
func TestSplit(t *testing.T) {
	for _, x := range []struct {
		s    string
		want []string
	}{
		{"", nil},
		{"a", []string{"a"}},
		{"abc", []string{"abc"}},
		{" ", []string{" "}},
		{"    ", []string{"    "}},
		{" \t\n\f ", []string{" \t\n\f "}},
		{"a b", []string{"a", " ", "b"}},
		{" a  bc\n", []string{" ", "a", "  ", "bc", "\n"}},
		{"a ", []string{"a", " "}},
		{" a", []string{" ", "a"}},
		{"a\tb\nc\fd e", []string{"a", "\t", "b", "\n", "c", "\f", "d", " ", "e"}},
		{"ab.c-d,e", []string{"ab.c-d,e"}},
		// What looks like a space, but is none.
		{"a\rb", []string{"a\rb"}},
		{"\v \x00\x1f", []string{"\v", " ", "\x00\x1f"}},
		{"a\xc2\xa0b\xe2\x80\x83c\xc2\x85d\x85\xa0", []string{"a\xc2\xa0b\xe2\x80\x83c\xc2\x85d\x85\xa0"}},
		// What is no text.
		{"\xff \xc3", []string{"\xff", " ", "\xc3"}},
		{"\xe2\x82 \xac", []string{"\xe2\x82", " ", "\xac"}},
		{strings.Repeat("x", 70000) + " ", []string{strings.Repeat("x", 70000), " "}},
	} {
		if l := Split(x.s); !slices.Equal(l, x.want) {
			t.Errorf("Split(%.100q): %.300q", x.s, l)
		}
	}
}

// Promise 24.1: all short texts, and each byte.
func TestSplitAll(t *testing.T) {
	hold := func(s string) {
		t.Helper()
		l := Split(s)
		if !slices.Equal(l, plainSplit(s)) || strings.Join(l, "") != s {
			t.Fatalf("Split(%q): %q; want %q", s, l, plainSplit(s))
		}
	}
	for _, s := range allTexts(7, "a", "b", " ", "\n") {
		hold(s)
	}
	for c := range 256 {
		one := string([]byte{byte(c)})
		for _, s := range []string{one, "a" + one, " " + one, one + "a", one + " ", "a" + one + "b", " " + one + " ", "a" + one + " "} {
			hold(s)
		}
	}
}

// Promise 24.1: what was changed of lists, told by hand.
func TestLists(t *testing.T) {
	for _, x := range []struct {
		a, b []string
		want []Piece
	}{
		{nil, nil, nil},
		{[]string{}, nil, nil},
		{nil, []string{"a"}, pieces(come("a"))},
		{[]string{"a"}, nil, pieces(gone("a"))},
		{nil, []string{"a", "b"}, pieces(come("a"), come("b"))},
		{[]string{"a", "b"}, []string{}, pieces(gone("a"), gone("b"))},
		// The same: piece by piece.
		{[]string{"a"}, []string{"a"}, pieces(same("a"))},
		{[]string{"a", "b"}, []string{"a", "b"}, pieces(same("a"), same("b"))},
		{[]string{"a", "a"}, []string{"a", "a"}, pieces(same("a"), same("a"))},
		// Wholly unlike: what is gone first.
		{[]string{"a"}, []string{"b"}, pieces(gone("a"), come("b"))},
		{[]string{"a", "b"}, []string{"c", "d"}, pieces(gone("a"), gone("b"), come("c"), come("d"))},
		// Ahead of, between and behind pairs.
		{[]string{"a", "b", "c"}, []string{"b", "x", "c"}, pieces(gone("a"), same("b"), come("x"), same("c"))},
		{[]string{"1", "a", "2", "3", "b", "4"}, []string{"5", "6", "a", "7", "b", "8"}, pieces(gone("1"), come("5"), come("6"), same("a"), gone("2"), gone("3"), come("7"), same("b"), gone("4"), come("8"))},
		{[]string{"a", "x", "b"}, []string{"a", "b"}, pieces(same("a"), gone("x"), same("b"))},
		{[]string{"a", "b"}, []string{"a", "x", "b"}, pieces(same("a"), come("x"), same("b"))},
		{[]string{"a"}, []string{"a", "b"}, pieces(same("a"), come("b"))},
		{[]string{"a", "b"}, []string{"a"}, pieces(same("a"), gone("b"))},
		// Of rows of pairs that are as many, that of match.Line.
		{[]string{"a", "b"}, []string{"b", "a"}, pieces(gone("a"), same("b"), come("a"))},
		{[]string{"a", "a"}, []string{"a"}, pieces(same("a"), gone("a"))},
		{[]string{"a"}, []string{"a", "a"}, pieces(same("a"), come("a"))},
		// Empty texts are texts, and none is taken apart.
		{[]string{""}, nil, pieces(gone(""))},
		{[]string{"", "a"}, []string{"", ""}, pieces(same(""), gone("a"), come(""))},
		{[]string{"a b"}, []string{"a c"}, pieces(gone("a b"), come("a c"))},
		{[]string{"\xff"}, []string{"\xff", "\xef\xbf\xbd"}, pieces(same("\xff"), come("\xef\xbf\xbd"))},
	} {
		if l := Lists(x.a, x.b); !slices.Equal(l, x.want) {
			t.Errorf("Lists(%q, %q): %s; want %s", x.a, x.b, tell(l), tell(x.want))
		}
		holdLists(t, x.a, x.b)
	}
}

// textOf are the Texts of pieces, but those of one Kind.
func textOf(l []Piece, but int) []string {
	var all []string
	for _, x := range l {
		if x.Kind != but {
			all = append(all, x.Text)
		}
	}
	return all
}

// holdLists asks for what the chapter tells of two lists: 24.1, 24.4.
func holdLists(t *testing.T, a, b []string) {
	t.Helper()
	l := Lists(a, b)
	if want := plainLists(a, b); !slices.Equal(l, want) {
		t.Fatalf("Lists(%q, %q): %s; want %s", a, b, tell(l), tell(want))
	}
	if !slices.Equal(textOf(l, Come), a) || !slices.Equal(textOf(l, Gone), b) {
		t.Fatalf("Lists(%q, %q): %s: it is not of these", a, b, tell(l))
	}
	if Old(l) != strings.Join(a, "") || New(l) != strings.Join(b, "") {
		t.Fatalf("of %q, %q: Old %q, New %q", a, b, Old(l), New(l))
	}
}

// Promises 24.1, 24.4: all short lists; 24.5, too.
func TestAllLists(t *testing.T) {
	all := allLists(4, "a", "b", "")
	for _, a := range all {
		for _, b := range all {
			holdLists(t, a, b)
		}
		holdAllSame(t, Lists(a, a))
	}
}

// holdAllSame asks that nothing was changed: 24.5.
func holdAllSame(t *testing.T, l []Piece) {
	t.Helper()
	for _, x := range l {
		if x.Kind != Same {
			t.Fatalf("not all is Same: %s", tell(l))
		}
	}
}

// Promises 24.1, 24.4, 24.5: lists may be of any length.
func TestLongLists(t *testing.T) {
	r := rand.New(rand.NewSource(241))
	for _, n := range []int{Most - 1, Most, Most + 1, 1500} {
		l := slices.Repeat([]string{"a", "b", "c"}, n)[:n]
		holdAllSame(t, Lists(l, l))
		for _, m := range [][]string{nil, {"b"}, edited(r, l), append(slices.Clone(l), "x"), append([]string{"x"}, l...), slices.Repeat([]string{"d"}, n)} {
			holdLists(t, l, m)
			holdLists(t, m, l)
		}
	}
}

// Promise 24.1: what was changed of texts, told by hand.
func TestTexts(t *testing.T) {
	for _, x := range []struct {
		a, b string
		want []Piece
	}{
		{"", "", nil},
		{"", "a", pieces(come("a"))},
		{"a", "", pieces(gone("a"))},
		{"", "a b ", pieces(come("a b "))},
		{" a b", "", pieces(gone(" a b"))},
		{"", " ", pieces(come(" "))},
		{"a", "a", pieces(same("a"))},
		{"a b c", "a b c", pieces(same("a b c"))},
		{"  ", "  ", pieces(same("  "))},
		// Wholly unlike.
		{"a", "b", pieces(gone("a"), come("b"))},
		{"a\tb", "c\nd", pieces(gone("a\tb"), come("c\nd"))},
		{"a", " ", pieces(gone("a"), come(" "))},
		// Spaces are words.
		{"a b", "c d", pieces(gone("a"), come("c"), same(" "), gone("b"), come("d"))},
		{"a b", "a  b", pieces(same("a"), gone(" "), come("  "), same("b"))},
		{"a b", "a\nb", pieces(same("a"), gone(" "), come("\n"), same("b"))},
		{"a b", "a b ", pieces(same("a b"), come(" "))},
		{" a b", "a b", pieces(gone(" "), same("a b"))},
		{"ab", "a b", pieces(gone("ab"), come("a b"))},
		// Pieces of one Kind side by side are one.
		{"a b c d", "a d", pieces(same("a "), gone("b c "), same("d"))},
		{"a d", "a b c d", pieces(same("a "), come("b c "), same("d"))},
		{"the old page is long", "the new page is not long", pieces(same("the "), gone("old"), come("new"), same(" page is "), come("not "), same("long"))},
		{"a b", "b a", pieces(gone("a "), same("b"), come(" a"))},
		// Words are wholes.
		{"word", "words", pieces(gone("word"), come("words"))},
		{"a\xff b", "a\xfe b", pieces(gone("a\xff"), come("a\xfe"), same(" b"))},
	} {
		if l := Texts(x.a, x.b); !slices.Equal(l, x.want) {
			t.Errorf("Texts(%q, %q): %s; want %s", x.a, x.b, tell(l), tell(x.want))
		}
		holdTexts(t, x.a, x.b)
	}
}

// holdTexts asks for what the chapter tells of two texts: 24.1, 24.4.
func holdTexts(t *testing.T, a, b string) {
	t.Helper()
	l := Texts(a, b)
	if want := plainTexts(a, b); !slices.Equal(l, want) {
		t.Fatalf("Texts(%.200q, %.200q): %s; want %s", a, b, tell(l), tell(want))
	}
	if Old(l) != a || New(l) != b {
		t.Fatalf("of %.200q, %.200q: Old %.200q, New %.200q", a, b, Old(l), New(l))
	}
	for i, x := range l {
		if x.Text == "" || i > 0 && l[i-1].Kind == x.Kind {
			t.Fatalf("Texts(%.200q, %.200q): %s: piece %d", a, b, tell(l), i)
		}
	}
}

// Promises 24.1, 24.4, 24.5: all short texts.
func TestAllTexts(t *testing.T) {
	all := allTexts(4, "a", "b", " ", "\n")
	for _, a := range all {
		for _, b := range all {
			holdTexts(t, a, b)
		}
		holdAllSame(t, Texts(a, a))
	}
}

// Promises 24.1, 24.4, 24.5: texts by chance, right or not.
func TestTextsByChance(t *testing.T) {
	r := rand.New(rand.NewSource(244))
	for range 3000 {
		l := someWords(r, 60)
		a, b := strings.Join(l, ""), strings.Join(edited(r, l), "")
		holdTexts(t, a, b)
		holdTexts(t, b, a)
		holdAllSame(t, Texts(a, a))
	}
}

// Promise 24.1: texts of Most words, and of one more, on each side; what counts are words, not bytes.
func TestMost(t *testing.T) {
	full := most()
	over := full + "a"
	for _, x := range []struct {
		a, b string
		want []Piece
	}{
		{full, full, pieces(same(full))},
		{full[1:] + "a", full, pieces(gone(" "), same(full[:len(full)-1]), come(" "))},
		{full[1:] + "b", full, pieces(come("a"), same(full[1:]), gone("b"))},
		{full, "", pieces(gone(full))},
		{"", full, pieces(come(full))},
		{full, "a", pieces(same("a"), gone(full[1:]))},
		{"a", full, pieces(same("a"), come(full[1:]))},
		{full, full[:len(full)-1], pieces(same(full[:len(full)-1]), gone(" "))},
		// One more, of one alone, of the other alone, and of both.
		{over, full, pieces(gone(over), come(full))},
		{full, over, pieces(gone(full), come(over))},
		{over, "a", pieces(gone(over), come("a"))},
		{"a", over, pieces(gone("a"), come(over))},
		{over, over + "b", pieces(gone(over), come(over+"b"))},
		{" " + full, full, pieces(gone(" "+full), come(full))},
		{full, " " + full, pieces(gone(full), come(" "+full))},
		// The chapter's Words make no exception of a text that stays as it is.
		{over, over, pieces(gone(over), come(over))},
		// Without what is empty.
		{over, "", pieces(gone(over))},
		{"", over, pieces(come(over))},
		// Many more.
		{strings.Repeat(full, 5), strings.Repeat(full, 4), pieces(gone(strings.Repeat(full, 5)), come(strings.Repeat(full, 4)))},
		// Many bytes are few words.
		{strings.Repeat("x", 5000) + " b", strings.Repeat("x", 5000) + " c", pieces(same(strings.Repeat("x", 5000)+" "), gone("b"), come("c"))},
		{strings.Repeat(" ", 5000), strings.Repeat(" ", 5000) + "c", pieces(same(strings.Repeat(" ", 5000)), come("c"))},
		{strings.ReplaceAll(full, "a", "word"), strings.ReplaceAll(full, "a", "word"), pieces(same(strings.ReplaceAll(full, "a", "word")))},
	} {
		if l := Texts(x.a, x.b); !slices.Equal(l, x.want) {
			t.Errorf("Texts of %d and %d words: %s; want %s", len(Split(x.a)), len(Split(x.b)), tell(l), tell(x.want))
		}
		holdTexts(t, x.a, x.b)
	}
	if n := len(Split(full)); n != Most {
		t.Errorf("%d words", n)
	}
}

// Promises 24.1, 24.4, 24.5: texts of about Most words, by chance.
func TestAboutMost(t *testing.T) {
	r := rand.New(rand.NewSource(2411))
	whole, apart := 0, 0
	for range 300 {
		l := Split(strings.Repeat("one two\nthree ", Most/6) + strings.Repeat(" x", r.Intn(6)))
		a, b := strings.Join(l, ""), strings.Join(edited(r, l), "")
		holdTexts(t, a, b)
		if len(Split(a)) > Most || len(Split(b)) > Most {
			whole++
			continue
		}
		apart++
		holdAllSame(t, Texts(a, a))
	}
	if whole < 30 || apart < 30 {
		t.Errorf("%d and %d: too few to tell", whole, apart)
	}
}

// Promise 24.2: Old, New and Marked, of any pieces.
func TestOldNewMarked(t *testing.T) {
	for _, x := range []struct {
		l                []Piece
		old, new, marked string
	}{
		{nil, "", "", ""},
		{pieces(), "", "", ""},
		{pieces(same("a")), "a", "a", "a"},
		{pieces(gone("a")), "a", "", "[-a-]"},
		{pieces(come("a")), "", "a", "[+a+]"},
		{pieces(same("")), "", "", ""},
		{pieces(gone("")), "", "", "[--]"},
		{pieces(come("")), "", "", "[++]"},
		{pieces(same("the "), gone("old"), come("new"), same(" page")), "the old page", "the new page", "the [-old-][+new+] page"},
		// Each piece by itself, in any order.
		{pieces(come("b"), gone("a"), gone("c"), same("d"), same("e"), come("f"), come("g")), "acde", "bdefg", "[+b+][-a-][-c-]de[+f+][+g+]"},
		// Of any other Kind nothing.
		{pieces(Piece{0, "a"}), "", "", ""},
		{pieces(Piece{4, "a"}, Piece{-1, "b"}, Piece{1<<63 - 1, "c"}, Piece{-1 << 63, "d"}, Piece{257, "e"}, Piece{1<<32 + 2, "f"}), "", "", ""},
		{pieces(same("a"), Piece{4, "x"}, gone("b"), Piece{}, come("c"), Piece{Text: "y"}), "ab", "ac", "a[-b-][+c+]"},
		// Nothing is escaped, and bytes stay.
		{pieces(same("[-a-]"), gone("-]"), come("[+<&\xff\x00\n")), "[-a-]-]", "[-a-][+<&\xff\x00\n", "[-a-][--]-][+[+<&\xff\x00\n+]"},
	} {
		if s := Old(x.l); s != x.old {
			t.Errorf("Old(%s): %q; want %q", tell(x.l), s, x.old)
		}
		if s := New(x.l); s != x.new {
			t.Errorf("New(%s): %q; want %q", tell(x.l), s, x.new)
		}
		if s := Marked(x.l); s != x.marked {
			t.Errorf("Marked(%s): %q; want %q", tell(x.l), s, x.marked)
		}
	}
}

// Promise 24.3: lines, told by hand.
func TestPages(t *testing.T) {
	page := list(p("a"), elem("i"))
	for _, x := range []struct {
		a, b []api.Node
		want []string
	}{
		{nil, nil, nil},
		{list(), nil, nil},
		{nil, page, []string{"+ <p>", "+  a", "+ <i>"}},
		{page, nil, []string{"- <p>", "-  a", "- <i>"}},
		{page, page, []string{"  <p>", "   a", "  <i>"}},
		{page, list(p("b\nc"), elem("i")), []string{"  <p>", "-  a", "+  b c", "  <i>"}},
		{page, list(elem("i"), p("a")), []string{"+ <i>", "  <p>", "   a", "- <i>"}},
		{list(p("a")), list(note("b")), []string{"- <p>", "-  a", "+ b"}},
		{list(p("a"), p("b")), list(p("b")), []string{"  <p>", "-  a", "- <p>", "   b"}},
		// As deep as it lies.
		{list(text("a")), list(p("a")), []string{"- a", "+ <p>", "+  a"}},
		{deep(2, text("a")), deep(2, text("b")), []string{"  <b>", "   <b>", "-   a", "+   b"}},
		// Attributes, with a line's end in one.
		{list(with(elem("p"), "a", "1")), list(with(elem("p"), "a", "2\n\"")), []string{"- <p a=\"1\">", "+ <p a=\"2\n&quot;\">"}},
		// Unlike nodes with lines that are alike: they are Same; what is alike twice is told twice.
		{list(text("<p>")), list(elem("p")), []string{"  <p>"}},
		{list(text("a\nb")), list(note("a b")), []string{"  a b"}},
		{list(elem("p"), elem("p")), list(elem("p")), []string{"  <p>", "- <p>"}},
		{list(elem("p")), list(elem("p"), elem("p"), elem("p")), []string{"  <p>", "+ <p>", "+ <p>"}},
		{list(text(" a")), list(api.Node{Kind: 4, Kids: list(text("a"))}), []string{"+ ", "   a"}},
		// Lines without anything.
		{list(text("")), list(note("")), []string{"  "}},
		{list(api.Node{}), nil, []string{"- "}},
		{nil, list(api.Node{Kind: 9, Kids: list(note(""))}), []string{"+ ", "+  "}},
	} {
		if l := Pages(x.a, x.b); !slices.Equal(l, x.want) {
			t.Errorf("Pages: %q; want %q", l, x.want)
		}
		holdPages(t, x.a, x.b)
	}
}

// holdPages asks for what the chapter tells of two pages: 24.3 to 24.5, in lines.
func holdPages(t *testing.T, a, b []api.Node) {
	t.Helper()
	lines := Pages(a, b)
	if want := plainPages(a, b); !slices.Equal(lines, want) {
		t.Fatalf("Pages: %q; want %q", lines, want)
	}
	var was, is []string
	for _, s := range lines {
		if s[0] != '+' {
			was = append(was, s[2:])
		}
		if s[0] != '-' {
			is = append(is, s[2:])
		}
	}
	if !slices.Equal(was, print.Lines(a)) || !slices.Equal(is, print.Lines(b)) {
		t.Fatalf("Pages: %q: it is not of these", lines)
	}
	for _, s := range Pages(a, a) {
		if !strings.HasPrefix(s, "  ") {
			t.Fatalf("from a page to itself: %q", s)
		}
	}
}

// Promise 24.3: pages by chance, right or not, and of more lines than a text has words that is gone through word by word.
func TestPagesByChance(t *testing.T) {
	r := rand.New(rand.NewSource(243))
	for range 2000 {
		a, b := some(r, 3), some(r, 3)
		holdPages(t, a, b)
		holdPages(t, a, slices.Concat(a, b))
		holdPages(t, slices.Concat(b, a, b), slices.Concat(a, b))
	}
	many := slices.Repeat(list(p("a"), elem("i")), Most)
	holdPages(t, many, append(slices.Clone(many), p("b")))
	if l := Pages(many, append(slices.Clone(many), p("b"))); len(l) != 3*Most+2 || l[0] != "  <p>" || l[3*Most] != "+ <p>" {
		t.Errorf("Pages: %d lines, of which the first is %q", len(l), l[0])
	}
	far := deep(500, text("a"))
	holdPages(t, far, deep(500, text("b")))
	holdPages(t, far, far[0].Kids)
}

// Rule R3: what is handed in is as it was, spare room too; what is handed out is new memory.
func TestNewMemory(t *testing.T) {
	r := rand.New(rand.NewSource(3))
	for range 300 {
		a := roomyTexts(someWords(r, 9))
		b := roomyTexts(edited(r, a))
		wasA, wasB := slices.Clone(a[:len(a)+1]), slices.Clone(b[:len(b)+1])
		l := Lists(a, b)
		want := slices.Clone(l)
		for i := range l[:cap(l)] {
			l[:cap(l)][i] = Piece{9, "junk"}
		}
		again := Lists(a, b)
		if !slices.Equal(again, want) || !slices.Equal(a[:len(a)+1], wasA) || !slices.Equal(b[:len(b)+1], wasB) {
			t.Fatalf("Lists(%q, %q): what was handed in was changed, or handed out", a, b)
		}
		// Pieces that are handed in, with spare room.
		room := append(again, Piece{Same, "junk"})
		short, was := room[:len(again)], slices.Clone(room)
		Old(short)
		New(short)
		Marked(short)
		if !slices.Equal(room, was) {
			t.Fatalf("what was handed in was changed: %s", tell(room))
		}
	}
	for range 300 {
		a, b := roomy(some(r, 2)), roomy(some(r, 2))
		wasA, wasB := whole(a), whole(b)
		lines := Pages(a, b)
		want := slices.Clone(lines)
		for i := range lines[:cap(lines)] {
			lines[:cap(lines)][i] = "junk"
		}
		if !slices.Equal(Pages(a, b), want) || whole(a) != wasA || whole(b) != wasB {
			t.Fatalf("Pages: what was handed in was changed, or handed out")
		}
	}
	one := Split("a b")
	one[0] = "junk"
	if l := Split("a b"); !slices.Equal(l, []string{"a", " ", "b"}) {
		t.Errorf("Split: %q", l)
	}
}

// Rule R2: nil and empty lists are the same.
func TestNilAndEmpty(t *testing.T) {
	none, some := []string{}, []string{"a"}
	if len(Lists(none, nil)) != 0 || len(Lists(nil, none)) != 0 || len(Pages(list(), nil)) != 0 || len(Pages(nil, list())) != 0 {
		t.Error("nothing, of nothing")
	}
	if !slices.Equal(Lists(none, some), Lists(nil, some)) || !slices.Equal(Lists(some, none), Lists(some, nil)) {
		t.Error("Lists")
	}
	bare := list(api.Node{Kind: api.Element, Name: "p", Attrs: []api.Attr{}, Kids: list()})
	if l := Pages(bare, list(elem("p"))); !slices.Equal(l, []string{"  <p>"}) {
		t.Errorf("Pages: %q", l)
	}
}

// Very long texts: each call ends, and does not take too long.
func TestVeryLong(t *testing.T) {
	long := strings.Repeat("a b\n", 1<<20)
	if n := len(Split(long)); n != 1<<22 {
		t.Errorf("Split: %d words", n)
	}
	if l := Texts(long, long+"c"); !slices.Equal(l, pieces(gone(long), come(long+"c"))) {
		t.Errorf("Texts: %s", tell(l))
	}
	great := strings.Repeat(strings.Repeat("x", 1<<14)+" ", Most/2)
	if l := Texts(great, great[1:]); Old(l) != great || New(l) != great[1:] || len(l) != 3 {
		t.Errorf("Texts: %d pieces", len(l))
	}
	one := strings.Repeat("x", 1<<24)
	if l := Texts(one, one+" y"); !slices.Equal(l, pieces(same(one), come(" y"))) {
		t.Errorf("Texts: %d pieces", len(l))
	}
	if s := Marked(slices.Repeat(pieces(gone("a"), come("b"), same("c")), 1<<18)); len(s) != 11<<18 {
		t.Errorf("Marked: %d bytes", len(s))
	}
}
