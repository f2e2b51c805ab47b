package clean

import (
	"fmt"
	"math/rand"
	"slices"
	"strings"
	"testing"

	"recto/api"
	"recto/policy"
	"recto/print"
	"recto/round"
	"recto/tree"
)

// Promises 18.1, 18.2: texts that come in, what is made of them, and in how many rounds.
func TestTexts(t *testing.T) {
	for _, c := range []struct {
		p       policy.Policy
		s, want string
		rounds  int
	}{
		{policy.Plain(), "", "", 1},
		{policy.Plain(), "a", "a", 1},
		{policy.Plain(), "a\r\nb\x00\xff", "a\nb\ufffd\ufffd", 1},
		{policy.Plain(), "&#13;\n&lt;", "\n\n&lt;", 1},
		// The document's examples.
		{policy.Plain(), "<p>a<script>b</script><p>c", "<p>a</p><p>c</p>", 1},
		{policy.Plain(), "<a href=javascript:x>y</a>", "<a>y</a>", 1},
		{policy.Plain(), "<b>1<p>2</b>3", "<b>1</b><p><b>2</b>3</p>", 1},
		{policy.Plain(), "<table>a<td>b", "a<table><tbody><tr><td>b</td></tr></tbody></table>", 1},
		// Attributes and elements that don't stay.
		{policy.Plain(), "<a href=JAVA&#10;script:x title='&quot;<'>y", "<a title=\"&quot;&lt;\">y</a>", 1},
		{policy.Plain(), "<img src=x onerror=y alt=z>", "<img src=\"x\" alt=\"z\">", 1},
		{policy.Plain(), "<font>a</font><!--b-->c<svg><p>d</svg>", "ac<p>d</p>", 1},
		{policy.Plain(), "a<svg><b>", "a<b></b>", 1},
		{policy.Plain(), "a<svg>b</svg>c", "ac", 1},
		{policy.Plain(), "<xmp><p></xmp><title><b></title><textarea>\n<i></textarea>", "&lt;p&gt;&lt;b&gt;&lt;i&gt;", 1},
		// What is read again is another.
		{policy.Plain(), "<pre>\n", "<pre></pre>", 1},
		{policy.Plain(), "<pre>\n\n", "<pre></pre>", 2},
		{policy.Plain(), "<pre>\n\nx", "<pre>x</pre>", 2},
		{policy.Plain(), "<pre>\n\n\nx", "<pre>x</pre>", 3},
		{policy.Plain(), "<pre>\n\n\n\nx", "<pre>x</pre>", 4},
		{policy.Plain(), "<pre>\n\n\n\n\nx", "<pre>x</pre>", 5},
		{policy.Plain(), "<pre>\n\n\n\n\n\nx", "<pre>x</pre>", 6},
		{policy.Plain(), "<pre><font>\n\n\n\n\nx", "<pre>x</pre>", 6},
		{opening(), "<p><svg><desc><p>x", "<p></p><p>x</p><p></p>", 2},
		{opening(), "<svg><style>&lt;img src=x onerror=y&gt;", "&lt;img src=x onerror=y&gt;", 1},
		{opening(), "<a><svg><desc><table><td><a>x", "<a><table><tbody><tr><td><a>x</a></td></tr></tbody></table></a>", 1},
		{changed(policy.Open, "table tbody tr td"), "<a>1<table><td><a>2", "<a>1</a><a>2</a>", 2},
		{changed(policy.Open, "table tbody tr td"), "<table><td>1<td>2", "12", 1},
		{changed(policy.Drop, "td"), "<table><td>1<th>2", "<table><tbody><tr><th>2</th></tr></tbody></table>", 1},
		{changed(policy.Open, "table"), "<table><td>1", "1", 2},
	} {
		if x, e := Text(c.p, c.s); x != c.want || e != api.OK {
			t.Errorf("Text(%q): %q, %v; want %q", c.s, x, e, c.want)
		}
		if l, e := Page(c.p, c.s); print.Text(l) != c.want || !Is(c.p, l) || e != api.OK {
			t.Errorf("Page(%q): %q, %v; want %q", c.s, print.Text(l), e, c.want)
		}
		if n, e := Rounds(c.p, c.s); n != c.rounds || e != api.OK {
			t.Errorf("Rounds(%q): %d, %v; want %d", c.s, n, e, c.rounds)
		}
		holdText(t, c.p, c.s)
	}
	if Most != 6 {
		t.Error("Most")
	}
}

// holdError asks for an error of a text, with nothing beside it.
func holdError(t *testing.T, p policy.Policy, s string, want api.Errno) {
	t.Helper()
	if l, e := Page(p, s); e != want || len(l) > 0 {
		t.Errorf("Page(%.80q): %v, %v; want %v", s, l, e, want)
	}
	if n, e := Rounds(p, s); e != want || n != 0 {
		t.Errorf("Rounds(%.80q): %d, %v; want %v", s, n, e, want)
	}
	if x, e := Text(p, s); e != want || x != "" {
		t.Errorf("Text(%.80q): %q, %v; want %v", s, x, e, want)
	}
}

// Promise 18.1: pages that are not done within Most rounds.
func TestShift(t *testing.T) {
	for _, s := range []string{"<pre>\n\n\n\n\n\n\n", "<pre>" + strings.Repeat("\n", 50) + "x", "<p>a<pre><!---->\n\n\n\n\n\nx"} {
		holdError(t, policy.Plain(), s, api.ErrShift)
		holdText(t, policy.Plain(), s)
	}
	// What comes to light by reading is filtered, and comes to light again.
	noGroup := changed(policy.Open, "tbody")
	for _, s := range []string{"<table><td>x", "<table><tr>", "a<table><tbody><tr><th>"} {
		holdError(t, noGroup, s, api.ErrShift)
		holdText(t, noGroup, s)
	}
	l := list(elem("table", elem("tr", elem("td", text("x")))))
	if m, e := Nodes(noGroup, l); e != api.ErrShift || len(m) > 0 {
		t.Errorf("Nodes(%v): %v, %v", l, m, e)
	}
	for n := range 10 {
		l := list(elem("pre", text(strings.Repeat("\n", n)+"x")))
		want := api.OK
		if n > 5 {
			want = api.ErrShift
		}
		if m, e := Nodes(policy.Plain(), l); e != want || e == api.OK && print.Text(m) != "<pre>x</pre>" || e != api.OK && len(m) > 0 {
			t.Errorf("Nodes of a pre with %d lines' ends: %v, %v", n, m, e)
		}
		holdNodes(t, policy.Plain(), l)
	}
}

// Promise 18.1: texts that build.Ready refuses, at first.
func TestRefusedAtFirst(t *testing.T) {
	p := policy.Plain()
	for _, c := range []struct {
		s string
		e api.Errno
	}{
		{strings.Repeat("a", api.MaxText), api.OK},
		{strings.Repeat("a", api.MaxText+1), api.ErrLong},
		{strings.Repeat("\x00", api.MaxText+1), api.ErrLong},
		{strings.Repeat("<i>", api.MaxDepth), api.OK},
		{strings.Repeat("<i>", api.MaxDepth+1), api.ErrDeep},
		{strings.Repeat("<x>", api.MaxDepth+1), api.ErrDeep},
		{strings.Repeat("<br>", api.MaxNodes), api.OK},
		{strings.Repeat("<br>", api.MaxNodes+1), api.ErrMany},
		{strings.Repeat("<!>", api.MaxNodes+1), api.ErrMany},
	} {
		holdError := holdError
		if c.e == api.OK {
			holdError = holdOK
		}
		holdError(t, p, c.s, c.e)
		holdText(t, p, c.s)
	}
}

// holdOK asks that there is no error of a text, and something is left of it.
func holdOK(t *testing.T, p policy.Policy, s string, _ api.Errno) {
	t.Helper()
	if l, e := Page(p, s); len(l) == 0 || e != api.OK {
		t.Errorf("Page(%.80q): %v, %v", s, l, e)
	}
}

// Promise 18.1: texts that build.Ready refuses in a round: the first, or a later one.
func TestRefusedInRound(t *testing.T) {
	long := func(n int) string { return strings.Repeat("x", n) }
	for _, c := range []struct {
		p     policy.Policy
		s     string
		e     api.Errno
		round int
	}{
		{policy.Plain(), strings.Repeat("<", 1000), api.OK, 1},
		{policy.Plain(), strings.Repeat("<", 1001), api.ErrLong, 1},
		{policy.Plain(), strings.Repeat("\x00", 1333), api.OK, 1},
		{policy.Plain(), strings.Repeat("\x00", 1334), api.ErrLong, 1},
		{policy.Plain(), "<p>" + long(3993), api.OK, 1},
		{policy.Plain(), "<p>" + long(3994), api.ErrLong, 1},
		{policy.Plain(), "<font>" + long(3994), api.OK, 1},
		{opening(), "<p><svg><desc><p>" + long(3979), api.OK, 2},
		{opening(), "<p><svg><desc><p>" + long(3980), api.ErrLong, 2},
	} {
		round, e := holdText(t, c.p, c.s)
		if round != c.round || e != c.e {
			t.Errorf("%.40q: %v in round %d; want %v, %d", c.s, e, round, c.e, c.round)
		}
		if e != api.OK {
			holdError(t, c.p, c.s, c.e)
		}
	}
}

// Promise 18.1: nodes of which what is read is refused in a round.
func TestNodesRefused(t *testing.T) {
	grows := elem("a", elem("b", elem("table", elem("a", text("x")))))
	for i, c := range []struct {
		l     []api.Node
		e     api.Errno
		round int
	}{
		{list(text(strings.Repeat("a", api.MaxText))), api.OK, 1},
		{list(text(strings.Repeat("a", api.MaxText+1))), api.ErrLong, 1},
		{list(elem("script", text(strings.Repeat("a", api.MaxText+1)))), api.OK, 1},
		{inside("i", api.MaxDepth), api.OK, 1},
		{inside("i", api.MaxDepth+1), api.ErrDeep, 1},
		{inside("font", api.MaxDepth+1, text("a")), api.OK, 1},
		{inside("div", api.MaxDepth-1, elem("table")), api.OK, 1},
		{inside("div", api.MaxDepth-3, elem("table", elem("tr", elem("td")))), api.ErrDeep, 1},
		{slices.Repeat(list(elem("br")), api.MaxNodes), api.OK, 1},
		{slices.Repeat(list(elem("br")), api.MaxNodes+1), api.ErrMany, 1},
		{slices.Repeat(list(note("")), api.MaxNodes+1), api.OK, 1},
		{slices.Repeat(list(elem("p", elem("p"))), 100), api.OK, 2},
		{slices.Repeat(list(elem("p", elem("p"))), 101), api.ErrMany, 1},
		{list(elem("p", elem("p", text(strings.Repeat("x", 3979))))), api.OK, 2},
		{list(elem("p", elem("p", text(strings.Repeat("x", 3980))))), api.ErrLong, 2},
		{slices.Repeat(list(grows), 32), api.OK, 3},
		{slices.Repeat(list(grows), 60), api.ErrMany, 2},
		{inside("i", 100000), api.ErrLong, 1},
		{inside("font", 100000, elem("p")), api.OK, 1},
	} {
		_, round, e := plainNodes(policy.Plain(), c.l)
		if round != c.round || e != c.e {
			t.Errorf("%d: %v in round %d; want %v, %d", i, e, round, c.e, c.round)
		}
		if m, got := Nodes(policy.Plain(), c.l); got != c.e || got != api.OK && len(m) > 0 {
			t.Errorf("%d: Nodes: %v, %v; want %v", i, m, got, c.e)
		}
		if tree.Depth(c.l) < 1000 {
			holdNodes(t, policy.Plain(), c.l)
		}
	}
}

// Promise 18.1: nodes that come in, and what is made of them.
func TestNodes(t *testing.T) {
	for _, c := range []struct {
		p    policy.Policy
		l    []api.Node
		want string
	}{
		{policy.Plain(), nil, ""},
		{policy.Plain(), list(), ""},
		{policy.Plain(), list(elem("p", elem("p"))), "<p></p><p></p><p></p>"},
		{policy.Plain(), list(elem("p", text("1"), elem("p", text("2")), text("3"))), "<p>1</p><p>2</p>3<p></p>"},
		{policy.Plain(), list(elem("td", text("x"))), "x"},
		{policy.Plain(), list(elem("table", text("x"))), "x<table></table>"},
		{policy.Plain(), list(elem("a", elem("table", elem("a", text("x"))))), "<a></a><a>x</a><table></table>"},
		{policy.Plain(), list(text("a"), text(""), text("b\r\x00\xff")), "ab\n\ufffd\ufffd"},
		{policy.Plain(), list(note("-->"), elem("b", note("x")), api.Node{Kind: 9, Text: "y", Kids: list(text("z"))}), "<b></b>"},
		{policy.Plain(), list(elem("br", text("x"))), "<br>"},
		{policy.Plain(), list(in(api.SVG, elem("svg", elem("p")))), ""},
		{opening(), list(in(api.SVG, elem("svg", elem("p")))), "<p></p>"},
		{policy.Plain(), list(in(7, elem("p")), elem("B"), elem("", text("<"))), "&lt;"},
		{policy.Plain(), list(with(elem("a"), "href", "javascript:x", "title", "\r", "title", "z", "HREF", "/")), "<a title=\"\n\"></a>"},
		{policy.Plain(), list(with(below(text("a"), elem("b")), "a", "b")), "a"},
		{policy.Plain(), list(api.Node{Kind: api.Element, Name: "b", Text: "x"}), "<b></b>"},
	} {
		m, e := Nodes(c.p, c.l)
		if x := print.Text(m); x != c.want || e != api.OK || !Is(c.p, m) {
			t.Errorf("Nodes(%v): %q, %v; want %q", c.l, x, e, c.want)
		}
		holdNodes(t, c.p, c.l)
	}
}

// Promises 18.1, 18.2: policies that are not right, handed to each call; their error is told ahead of the text's.
func TestWrongPolicies(t *testing.T) {
	for name, c := range wrong() {
		was := fmt.Sprint(c.p)
		for _, s := range []string{"", "a", "<p>x", "\xff", "<pre>\n\n\n\n\n\n\n\n", strings.Repeat("a", api.MaxText+1), strings.Repeat("<i>", 99)} {
			holdError(t, c.p, s, c.e)
		}
		for _, l := range [][]api.Node{nil, list(text("a")), list(elem("p", elem("p")), note("\xff")), inside("i", 99)} {
			if m, e := Nodes(c.p, l); e != c.e || len(m) > 0 {
				t.Errorf("%s: Nodes: %v, %v; want %v", name, m, e, c.e)
			}
			if Is(c.p, l) {
				t.Errorf("%s: Is(%v)", name, l)
			}
		}
		if fmt.Sprint(c.p) != was {
			t.Errorf("%s: the policy was changed", name)
		}
	}
}

// Promise 18.2: nodes that are clean; that are not right, not allowed, and that don't come back.
func TestIs(t *testing.T) {
	for _, l := range [][]api.Node{
		nil,
		{},
		{text("a<\n\ufffd")},
		{elem("p", text("a")), elem("p", elem("b", text("c")), text("d"))},
		{with(elem("a", text("y")), "href", "/\n\"", "title", "javascript:x")},
		{elem("br"), elem("hr"), with(elem("img"), "src", "x", "alt", "")},
		{elem("table", elem("tbody", elem("tr", elem("td", text("b")))))},
		{with(elem("section", elem("ul", elem("li"), elem("li"))), "class", "clash")},
		inside("i", api.MaxDepth),
		slices.Repeat(list(elem("br")), api.MaxNodes),
		{text(strings.Repeat("a", api.MaxText))},
	} {
		if !Is(policy.Plain(), l) {
			t.Errorf("Is(%s): false", print.Text(l))
		}
		holdNodes(t, policy.Plain(), l)
	}
	for what, lists := range map[string][][]api.Node{
		"not right": {
			{text("")},
			{text("a"), text("b")},
			{text("\r")},
			{text("\x00")},
			{text("\xff")},
			{in(api.SVG, text("a"))},
			{with(text("a"), "a", "b")},
			{below(text("a"), text("b"))},
			{with(elem("a"), "title", "\r")},
			{with(elem("a"), "title", "1", "title", "1")},
			{api.Node{Kind: api.Element, Name: "b", Text: "x"}},
			{elem("br", text(""))},
			inside("i", api.MaxDepth+1),
			slices.Repeat(list(elem("br")), api.MaxNodes+1),
		},
		"not allowed": {
			{elem("font")},
			{elem("style", text("a"))},
			{note("a")},
			{in(api.SVG, elem("svg"))},
			{with(elem("a"), "href", "javascript:x")},
			{with(elem("p"), "class", "x")},
			{elem("p", elem("b", with(elem("i"), "title", "")))},
			{elem("input")},
		},
		"not back": {
			{elem("p", elem("p"))},
			{elem("p", elem("div"))},
			{elem("td")},
			{elem("table", elem("tr"))},
			{elem("table", text("x"))},
			{elem("pre", text("\nx"))},
			{elem("br", elem("b"))},
			{elem("a", elem("a"))},
			{text(strings.Repeat("a", api.MaxText+1))},
			{text(strings.Repeat("<", api.MaxText/4+1))},
			inside("i", 38, elem("p", elem("p"))),
		},
	} {
		for _, l := range lists {
			right := tree.Check(l) == api.OK
			allowed := policy.Allows(policy.Plain(), l)
			if right == (what == "not right") || right && allowed == (what == "not allowed") {
				t.Errorf("%s: right %v, allowed %v: %v", what, right, allowed, l)
			}
			if Is(policy.Plain(), l) {
				t.Errorf("%s: Is(%v)", what, l)
			}
			holdNodes(t, policy.Plain(), l)
			if Is(policy.Plain(), list(text("1"), elem("div", l...))) {
				t.Errorf("%s: Is of a div with %v", what, l)
			}
		}
	}
	// More attributes than nodes may have, though a policy allows them, and they are read again.
	many := policy.Policy{Rules: []policy.Rule{{Name: "x", Act: policy.Keep}}, Others: policy.Open, Strange: policy.Drop}
	var attrs []string
	for i := range api.MaxAttrs + 1 {
		name := fmt.Sprint("a", i)
		many.Rules[0].Attrs, attrs = append(many.Rules[0].Attrs, name), append(attrs, name, "v")
	}
	more, most := list(with(elem("x"), attrs...)), list(with(elem("x"), attrs[2:]...))
	if Is(many, more) || !policy.Allows(many, more) || !round.Back(more) || !Is(many, most) {
		t.Error("Is of MaxAttrs attributes, and one more")
	}
	holdNodes(t, many, more)
	holdText(t, many, print.Text(more))
	// What one policy allows, another doesn't.
	l := list(elem("b", text("x")))
	if Is(changed(policy.Open, "b"), l) || Is(changed(policy.Drop, "b"), l) || !Is(changed(policy.Open, "i"), l) {
		t.Error("Is by other policies")
	}
}

// Promise 18.1: as many rounds as are told, at most Most; an error of a round, with nothing beside it, be it of what is done and is not right.
func TestRepeat(t *testing.T) {
	l := list(text("a"))
	for n := 1; n < 9; n++ {
		taken := 0
		m, rounds, e := repeat(l, func(there []api.Node) ([]api.Node, bool, api.Errno) {
			taken++
			return append(slices.Clone(there), elem("br")), taken == n, api.OK
		})
		switch {
		case n <= 6 && (len(m) != 1+n || rounds != n || e != api.OK || taken != n):
			t.Errorf("done in %d: %v, %d, %v", n, m, rounds, e)
		case n > 6 && (len(m) > 0 || rounds != 0 || e != api.ErrShift || taken != 6):
			t.Errorf("not done: %v, %d, %v, %d", m, rounds, e, taken)
		}
	}
	for _, err := range []api.Errno{api.ErrLong, api.ErrForm, api.ErrDeep} {
		for _, done := range []bool{false, true} {
			m, rounds, e := repeat(l, func(there []api.Node) ([]api.Node, bool, api.Errno) { return there, done, err })
			if len(m) > 0 || rounds != 0 || e != err {
				t.Errorf("an error: %v, %d, %v", m, rounds, e)
			}
		}
	}
}

// Promises 18.3 to 18.5: what is hidden so that it comes to light when it is written and read again.
func TestHidden(t *testing.T) {
	for _, s := range []string{
		"<svg><style><img src=x onerror=y></svg>z",
		"<math><mtext><table><mglyph><style><!--</style><img title=\"--&gt;&lt;img src=1 onerror=alert(1)&gt;\">",
		"<svg></p><style><a id=\"</style><img src=1 onerror=alert(1)>\">",
		"<form><math><mtext></form><form><mglyph><style></math><img src onerror=alert(1)>",
		"<noscript><p title=\"</noscript><img src=x onerror=alert(1)>\">",
		"<svg><desc><table><thead><s></table></s><table></table><style><a title=\"</style><img src onerror=alert(1)>\"></a></style></thead></table></desc></svg>",
		"<xmp><p title=\"</xmp><img src=x onerror=alert(1)>\">",
		"<textarea><p title='</textarea><script>alert(1)</script>'>",
		"<title><b title='</title><a href=javascript:x>'>",
		"<a href=&#1;javascript:x>y<a href='java\tscript:x'>z",
		"<img src=`x` onerror=y><image src=data:x alt=&quot;>&lt;script&gt;>",
		"<table><a href=javascript:x><td><svg><title><script>x</script>",
		"&lt;script&gt;x&lt;/script&gt;<!--><script>x</script>-->",
		"<svg><![CDATA[<script>x</script>]]></svg><![CDATA[<script>x</script>]]>",
		"<p><svg><desc><p><a><svg><desc><a href=javascript:x>y",
	} {
		for _, p := range []policy.Policy{policy.Plain(), opening(), odd()} {
			holdText(t, p, s)
			x, e := Text(p, s)
			if e != api.OK || strings.Contains(x, "<script") || strings.Contains(x, "<style") {
				t.Errorf("Text(%q): %q, %v", s, x, e)
			}
			for _, tag := range strings.FieldsFunc(x, func(c rune) bool { return c == '<' || c == '>' }) {
				name, _, _ := strings.Cut(tag, " ")
				if (name == "img" || name == "a") && (strings.Contains(tag, "onerror=\"") || strings.Contains(tag, "href=\"java") || strings.Contains(tag, "data:")) {
					t.Errorf("Text(%q): %q", s, x)
				}
			}
		}
	}
}

// Promises 18.1 to 18.5: texts by chance, by several policies, held against the chapter's telling.
func TestTextsByChance(t *testing.T) {
	r := rand.New(rand.NewSource(18))
	counts := map[string]int{}
	for _, p := range []policy.Policy{policy.Plain(), opening(), odd(), changed(policy.Open, "table tbody tr td p"), changed(policy.Open, "tbody"), changed(policy.Drop, "b td pre"), {Others: policy.Open, Strange: policy.Open}} {
		for range 800 {
			s := someText(r)
			if r.Intn(40) == 0 {
				s = strings.Repeat(s, 8)
			}
			rounds, e := holdText(t, p, s)
			if e != api.OK {
				rounds = 0
			}
			counts[fmt.Sprint(rounds, e)]++
		}
	}
	for _, want := range []string{"1 error 0", "2 error 0", "3 error 0", "4 error 0", "0 error 180", "0 error 120", "0 error 121"} {
		if counts[want] == 0 {
			t.Errorf("none is such: %s, of %v", want, counts)
		}
	}
}

// Promises 18.1 to 18.5: nodes by chance, held against the chapter's telling.
func TestNodesByChance(t *testing.T) {
	r := rand.New(rand.NewSource(181))
	for _, p := range []policy.Policy{policy.Plain(), opening(), odd(), changed(policy.Open, "table tbody tr td p")} {
		for range 800 {
			left := 5 + r.Intn(60)
			holdNodes(t, p, someNodes(r, 12, &left))
		}
	}
}

// Rule R3: what is handed in is as it was, spare room too.
func TestSpareRoom(t *testing.T) {
	l := append(slices.Grow(list(with(elem("a", text("x")), "title", "y")), 4), text("z"))
	l[0].Attrs = append(slices.Grow(l[0].Attrs, 4), api.Attr{Name: "href", Value: "/"})[:1]
	l[0].Kids = append(slices.Grow(l[0].Kids, 4), elem("b"))[:1]
	holdNodes(t, policy.Plain(), l[:1])
	holdNodes(t, policy.Plain(), l[:2])
	if !Is(policy.Plain(), l[:1]) || !Is(policy.Plain(), l) {
		t.Error("Is")
	}
}
