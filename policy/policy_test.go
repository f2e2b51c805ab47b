package policy

import (
	"fmt"
	"math/rand"
	"slices"
	"strings"
	"testing"

	"recto/api"
	"recto/build"
	"recto/urls"
)

func text(s string) api.Node { return api.Node{Kind: api.Text, Text: s} }
func note(s string) api.Node { return api.Node{Kind: api.Comment, Text: s} }

func elem(name string, kids ...api.Node) api.Node {
	return api.Node{Kind: api.Element, Name: name, Kids: kids}
}

func in(space int, n api.Node) api.Node {
	n.Space = space
	return n
}

func with(n api.Node, attrs ...string) api.Node {
	n.Attrs = nil
	for i := 0; i < len(attrs); i += 2 {
		n.Attrs = append(n.Attrs, api.Attr{Name: attrs[i], Value: attrs[i+1]})
	}
	return n
}

// below is a node with other kids, whatever its Kind.
func below(n api.Node, kids ...api.Node) api.Node {
	n.Kids = kids
	return n
}

func list(l ...api.Node) []api.Node { return l }

// small is a right policy with an act of each kind.
func small() Policy {
	return Policy{
		Rules: []Rule{
			{Name: "x", Act: Keep, Attrs: []string{"a", "b"}, Links: []string{"l", "m"}},
			{Name: "y", Act: Open, Attrs: []string{"a"}, Links: []string{"l"}},
			{Name: "z", Act: Drop, Attrs: []string{"a"}, Links: []string{"l"}},
			{Name: "k", Act: Keep},
		},
		Schemes: []string{"s", "t1+-."},
		Others:  Open,
		Strange: Drop,
	}
}

// wholeNodes tells all that nodes have, so that a change shows; spare room too.
func wholeNodes(l []api.Node) string {
	s := ""
	for i, n := range l[:cap(l)] {
		s += fmt.Sprintf("(%v %d %d %q %q %q", i < len(l), n.Kind, n.Space, n.Name, n.Attrs[:cap(n.Attrs)], n.Text)
		s += wholeNodes(n.Kids) + ")"
	}
	return s
}

// wholePolicy tells all that a policy has, so that a change shows; spare room too.
func wholePolicy(p Policy) string {
	s := fmt.Sprintf("%d %d %d %q %d", p.Others, p.Strange, len(p.Schemes), p.Schemes[:cap(p.Schemes)], len(p.Rules))
	for _, r := range p.Rules[:cap(p.Rules)] {
		s += fmt.Sprintf("(%q %d %d %q %d %q)", r.Name, r.Act, len(r.Attrs), r.Attrs[:cap(r.Attrs)], len(r.Links), r.Links[:cap(r.Links)])
	}
	return s
}

// holdNodes asks for the first thing of nodes that is not allowed, and that the policy and they are as they were.
func holdNodes(t *testing.T, p Policy, l []api.Node, allows bool, first string) {
	t.Helper()
	was := wholeNodes(l) + wholePolicy(p)
	for range 2 {
		if got := Allows(p, l); got != allows {
			t.Errorf("Allows(%v): %v", l, got)
		}
		if got := First(p, l); got != first {
			t.Errorf("First(%v): %q; want %q", l, got, first)
		}
	}
	if wholeNodes(l)+wholePolicy(p) != was {
		t.Errorf("what was handed in was changed: %s", was)
	}
}

// Promise 16.1: the plain policy, its rules in the order told.
func TestPlain(t *testing.T) {
	want := ""
	for _, name := range strings.Fields("p div h1 h2 h3 ul ol li blockquote pre b i em strong u code br hr span table caption tbody thead tr td th") {
		want += name + " 1 [] []\n"
	}
	want += "section 1 [class] []\na 1 [title] [href]\nimg 1 [alt] [src]\nscript 3 [] []\nstyle 3 [] []\n"
	p := Plain()
	got := ""
	for _, r := range p.Rules {
		got += fmt.Sprintln(r.Name, r.Act, r.Attrs, r.Links)
	}
	if got != want {
		t.Errorf("the rules are\n%s; want\n%s", got, want)
	}
	if !slices.Equal(p.Schemes, []string{"http", "https", "mailto"}) || p.Others != 2 || p.Strange != 3 {
		t.Errorf("Plain: %q, %d, %d", p.Schemes, p.Others, p.Strange)
	}
	if Most != 60 || Keep != 1 || Open != 2 || Drop != 3 {
		t.Error("the constants")
	}
}

// Rule R3: the plain policy is new memory, each time, and no two of its lists share any.
func TestPlainIsNew(t *testing.T) {
	want := fmt.Sprint(Plain())
	p, other := Plain(), Plain()
	spoil := func(l []string) {
		for i := range l[:cap(l)] {
			l[:cap(l)][i] += "?"
		}
	}
	spoil(p.Schemes)
	for _, r := range p.Rules {
		spoil(r.Attrs)
		spoil(r.Links)
	}
	if got := strings.ReplaceAll(fmt.Sprint(p), "?", ""); got != want || strings.Contains(fmt.Sprint(p), "??") {
		t.Errorf("lists of one answer share memory: %v", p)
	}
	for i := range p.Rules[:cap(p.Rules)] {
		p.Rules[:cap(p.Rules)][i] = Rule{Name: "z"}
	}
	if fmt.Sprint(other) != want || fmt.Sprint(Plain()) != want {
		t.Error("answers share memory")
	}
}

// Promise 16.2: what is done with elements by the plain policy.
func TestActPlain(t *testing.T) {
	p := Plain()
	for _, name := range strings.Fields("p div h1 h2 h3 ul ol li blockquote pre b i em strong u code br hr span table caption tbody thead tr td th section a img") {
		if a := Act(p, api.HTML, name); a != Keep {
			t.Errorf("Act of %s: %d", name, a)
		}
	}
	for _, name := range []string{"script", "style"} {
		if a := Act(p, api.HTML, name); a != Drop {
			t.Errorf("Act of %s: %d", name, a)
		}
	}
	for _, name := range []string{"font", "body", "html", "title", "textarea", "xmp", "svg", "math", "image", "input", "wbr", "h4", "P", "p ", "", "scriptx", "\xff", strings.Repeat("p", 9000)} {
		if a := Act(p, api.HTML, name); a != Open {
			t.Errorf("Act of %q: %d", name, a)
		}
	}
	for _, space := range []int{api.SVG, api.Math, 3, -1, 256, 1 << 32, -1 << 63} {
		for _, name := range []string{"p", "script", "font", "svg", "math", ""} {
			if a := Act(p, space, name); a != Drop {
				t.Errorf("Act of %q in space %d: %d", name, space, a)
			}
		}
	}
}

// Promise 16.2: by Strange, by the rule of the Name, by Others.
func TestAct(t *testing.T) {
	for _, others := range []int{Open, Drop} {
		for _, strange := range []int{Open, Drop} {
			p := small()
			p.Others, p.Strange = others, strange
			for name, want := range map[string]int{"x": Keep, "y": Open, "z": Drop, "k": Keep, "w": others, "X": others, "": others, "script": others} {
				if a := Act(p, api.HTML, name); a != want {
					t.Errorf("Others %d: Act of %q: %d; want %d", others, name, a, want)
				}
				for _, space := range []int{api.SVG, api.Math, 3, -1} {
					if a := Act(p, space, name); a != strange {
						t.Errorf("Strange %d: Act of %q in space %d: %d", strange, name, space, a)
					}
				}
			}
		}
	}
	none := Policy{Others: Open, Strange: Drop}
	if Act(none, api.HTML, "p") != Open || Act(none, api.SVG, "p") != Drop {
		t.Error("Act of a policy without rules")
	}
}

// Promise 16.2: attributes in Attrs, in Links with safe and unsafe values, and in neither.
func TestStays(t *testing.T) {
	p := small()
	values := []struct {
		value string
		safe  bool
	}{
		{"", true}, {"/x", true}, {"x:y", false}, {"s:x", true}, {"S:x", true}, {" \ns\t:x", true}, {"t1+-.:x", true}, {"javascript:x", false}, {"java\nscript:x", false}, {"\x01javascript:x", false}, {"java script:x", true}, {"/javascript:x", true}, {"\xff:x", true}, {"s\xff:x", true}, {"d:\xff", false},
	}
	for _, v := range values {
		for _, name := range []string{"a", "b"} {
			if !Stays(p, "x", api.Attr{Name: name, Value: v.value}) {
				t.Errorf("%s of x does not stay: %q", name, v.value)
			}
		}
		for _, name := range []string{"l", "m"} {
			if Stays(p, "x", api.Attr{Name: name, Value: v.value}) != v.safe {
				t.Errorf("%s of x, %q: want %v", name, v.value, v.safe)
			}
		}
		for _, name := range []string{"c", "A", "L", "al", "", "a ", "\xff", "onclick"} {
			if Stays(p, "x", api.Attr{Name: name, Value: v.value}) {
				t.Errorf("%q of x stays: %q", name, v.value)
			}
		}
		for _, elem := range []string{"y", "z", "k", "w", "X", "", "\xff"} {
			for _, name := range []string{"a", "b", "l", "m", "c", ""} {
				if Stays(p, elem, api.Attr{Name: name, Value: v.value}) {
					t.Errorf("%q of %q stays: %q", name, elem, v.value)
				}
			}
		}
	}
	p.Schemes = nil
	if Stays(p, "x", api.Attr{Name: "l", Value: "s:x"}) || !Stays(p, "x", api.Attr{Name: "l", Value: "x"}) || !Stays(p, "x", api.Attr{Name: "a", Value: "s:x"}) {
		t.Error("Stays of a policy without schemes")
	}
}

// Promise 16.2: attributes by the plain policy, with the document's example.
func TestStaysPlain(t *testing.T) {
	p := Plain()
	for _, x := range []struct {
		elem, name, value string
		want              bool
	}{
		{"a", "href", "javascript:x", false},
		{"a", "href", "JAVA\tscript:x", false},
		{"a", "href", "data:x", false},
		{"a", "href", "http://a.b/c", true},
		{"a", "href", "HTTPS:x", true},
		{"a", "href", "mailto:a@b", true},
		{"a", "href", "/x", true},
		{"a", "href", "", true},
		{"a", "title", "javascript:x", true},
		{"a", "src", "x", false},
		{"a", "onclick", "x", false},
		{"img", "src", "x.png", true},
		{"img", "src", "data:x", false},
		{"img", "alt", "data:x", true},
		{"img", "href", "x", false},
		{"section", "class", "clash", true},
		{"section", "id", "x", false},
		{"p", "class", "x", false},
		{"p", "title", "", false},
		{"script", "src", "x", false},
		{"font", "title", "x", false},
	} {
		if got := Stays(p, x.elem, api.Attr{Name: x.name, Value: x.value}); got != x.want {
			t.Errorf("Stays(%s, %s, %q): %v", x.elem, x.name, x.value, got)
		}
	}
}

// Promise 16.2: nodes that are allowed, and the first that is not.
func TestNodes(t *testing.T) {
	p := small()
	holdNodes(t, p, nil, true, "")
	holdNodes(t, p, list(), true, "")
	holdNodes(t, p, list(text("a"), text(""), text("\xff\x00")), true, "")
	holdNodes(t, p, list(elem("x"), elem("k", text("a"), elem("x", elem("k")))), true, "")
	holdNodes(t, p, list(with(elem("x"), "b", "1", "a", "q:r", "l", "s:x", "m", "/y")), true, "")
	holdNodes(t, p, list(with(elem("x"), "a", "1", "a", "2")), true, "")
	holdNodes(t, p, list(elem("y")), false, "<y>")
	holdNodes(t, p, list(elem("z")), false, "<z>")
	holdNodes(t, p, list(elem("w")), false, "<w>")
	holdNodes(t, p, list(elem("")), false, "<>")
	holdNodes(t, p, list(elem("X")), false, "<X>")
	holdNodes(t, p, list(with(elem("x"), "a", "1", "l", "q:r\"<&", "m", "")), false, "<x a=\"1\" l=\"q:r&quot;&lt;&amp;\" m=\"\">")
	holdNodes(t, p, list(with(elem("x"), "a", "1", "c", "2")), false, "<x a=\"1\" c=\"2\">")
	holdNodes(t, p, list(with(elem("x"), "c", "2", "a", "1")), false, "<x c=\"2\" a=\"1\">")
	holdNodes(t, p, list(with(elem("k"), "a", "1")), false, "<k a=\"1\">")
	holdNodes(t, p, list(with(elem("y"), "a", "1")), false, "<y a=\"1\">")
	holdNodes(t, p, list(with(elem("x"), "l", "/", "l", "q:")), false, "<x l=\"/\" l=\"q:\">")
	for _, space := range []int{api.SVG, api.Math, 3, -1, 256} {
		holdNodes(t, p, list(in(space, elem("x"))), false, "<x>")
		holdNodes(t, p, list(in(space, with(elem("g"), "a", "1"))), false, "<g a=\"1\">")
		holdNodes(t, p, list(in(space, text("x"))), true, "")
	}
}

// Promise 16.2: comments and nodes of another Kind are not allowed, and told by their Text.
func TestOtherKinds(t *testing.T) {
	for _, kind := range []int{api.Comment, 0, 4, -1, 255, 256, 257, 258, 1 << 32, 1<<32 + 1, 1<<32 + 2, -1 << 63} {
		n := with(api.Node{Kind: kind, Name: "x", Text: "c<\n>\xff"}, "a", "1")
		holdNodes(t, small(), list(n), false, "c<\n>\xff")
		holdNodes(t, small(), list(elem("x", text("a"), n), elem("y")), false, "c<\n>\xff")
		holdNodes(t, small(), list(elem("y"), n), false, "<y>")
		holdNodes(t, small(), list(below(n, elem("x"), elem("z"))), false, "c<\n>\xff")
		// One without Text is the first, though nothing is told of it.
		n.Text = ""
		holdNodes(t, small(), list(n, elem("y")), false, "")
	}
}

// Promise 16.2: each node stands ahead of its kids, and these ahead of what is behind it.
func TestFirst(t *testing.T) {
	p := small()
	holdNodes(t, p, list(elem("y", elem("z"))), false, "<y>")
	holdNodes(t, p, list(elem("x", elem("z")), elem("y")), false, "<z>")
	holdNodes(t, p, list(elem("x", elem("k", text("a"), elem("z")), elem("w")), elem("y")), false, "<z>")
	holdNodes(t, p, list(elem("x", elem("k", text("a")), elem("w")), elem("y")), false, "<w>")
	holdNodes(t, p, list(elem("x", elem("k"), text("b")), elem("x"), elem("y")), false, "<y>")
	holdNodes(t, p, list(with(elem("x", note("n")), "c", "1"), elem("y")), false, "<x c=\"1\">")
	holdNodes(t, p, list(elem("y", elem("x"))), false, "<y>")
	holdNodes(t, p, list(in(api.SVG, elem("svg", elem("x")))), false, "<svg>")
	holdNodes(t, p, list(elem("k", in(api.Math, elem("x")))), false, "<x>")
	// What no reading makes: kids of a text are nodes, too.
	holdNodes(t, p, list(below(text("a"), elem("x"), text("b"))), true, "")
	holdNodes(t, p, list(below(text("a"), elem("x"), elem("z")), elem("y")), false, "<z>")
	holdNodes(t, p, list(elem("x", with(text("a"), "c", "1"))), true, "")
}

// plainFirst is the first thing that a right policy does not allow, as the chapter tells it, and whether there is one.
func plainFirst(p Policy, l []api.Node) (string, bool) {
	for _, n := range l {
		tag := "<" + n.Name
		bad := n.Kind == api.Element && Act(p, n.Space, n.Name) != Keep
		for _, a := range n.Attrs {
			tag += " " + a.Name + "=\"" + a.Value + "\""
			bad = bad || n.Kind == api.Element && !Stays(p, n.Name, a)
		}
		if bad {
			return tag + ">", true
		}
		if n.Kind != api.Element && n.Kind != api.Text {
			return n.Text, true
		}
		if s, bad := plainFirst(p, n.Kids); bad {
			return s, true
		}
	}
	return "", false
}

// some is a list of nodes, by chance: most of them are allowed by small.
func some(r *rand.Rand, deep int) []api.Node {
	var l []api.Node
	for range r.Intn(4) {
		n := api.Node{Kind: api.Element, Name: []string{"x", "k"}[r.Intn(2)]}
		switch r.Intn(16) {
		case 0:
			n.Name = []string{"y", "z", "w", ""}[r.Intn(4)]
		case 1:
			n.Space = r.Intn(5) - 1
		case 2:
			n = api.Node{Kind: r.Intn(6) - 1, Text: "t"}
		case 3, 4, 5:
			n = text("a")
		}
		if n.Name == "x" {
			for range r.Intn(3) {
				a := api.Attr{Name: []string{"a", "b", "l", "m"}[r.Intn(4)], Value: []string{"", "s:x", "/y"}[r.Intn(3)]}
				if r.Intn(12) == 0 {
					a = api.Attr{Name: []string{"l", "m", "c"}[r.Intn(3)], Value: "q:z"}
				}
				n.Attrs = append(n.Attrs, a)
			}
		}
		if deep > 0 {
			n.Kids = some(r, deep-1)
		}
		l = append(l, n)
	}
	return l
}

// Promise 16.2: Allows and First of nodes by chance, held against the chapter's telling of them.
func TestNodesByChance(t *testing.T) {
	r := rand.New(rand.NewSource(16))
	p := small()
	counts := map[bool]int{}
	for range 20000 {
		l := some(r, r.Intn(4))
		first, bad := plainFirst(p, l)
		counts[bad]++
		holdNodes(t, p, l, !bad, first)
	}
	if counts[true] < 2000 || counts[false] < 2000 {
		t.Errorf("allowed or not: %v", counts)
	}
}

// Promise 16.2: of a policy that is not right Act is Drop, nothing stays or is allowed, and First is empty.
func TestNotRight(t *testing.T) {
	for name, p := range wrong() {
		was := wholePolicy(p)
		for _, elem := range []string{"x", "y", "z", "w", ""} {
			for space := range 4 {
				if a := Act(p, space, elem); a != Drop {
					t.Errorf("%s: Act of %q: %d", name, elem, a)
				}
			}
			for _, attr := range []string{"a", "b", "l", "c"} {
				if Stays(p, elem, api.Attr{Name: attr, Value: "/"}) {
					t.Errorf("%s: %s of %q stays", name, attr, elem)
				}
			}
		}
		for _, l := range [][]api.Node{nil, list(text("a")), list(elem("x")), list(elem("y"), note("c"))} {
			holdNodes(t, p, l, false, "")
		}
		if wholePolicy(p) != was {
			t.Errorf("%s: the policy was changed", name)
		}
	}
}

// Rule R3: a policy is as it was behind Act and Stays, spare room too; rule R6: the same call tells the same.
func TestPolicyStays(t *testing.T) {
	p := small()
	p.Rules, p.Schemes = slices.Grow(p.Rules, 9), slices.Grow(p.Schemes, 9)
	for i := range p.Rules {
		p.Rules[i].Attrs, p.Rules[i].Links = slices.Grow(p.Rules[i].Attrs, 9), slices.Grow(p.Rules[i].Links, 9)
	}
	was := wholePolicy(p)
	for range 2 {
		if Act(p, api.HTML, "x") != Keep || Act(p, api.SVG, "x") != Drop || Act(p, api.HTML, "w") != Open {
			t.Error("Act")
		}
		if !Stays(p, "x", api.Attr{Name: "m", Value: "s:x"}) || Stays(p, "x", api.Attr{Name: "m", Value: "q:x"}) {
			t.Error("Stays")
		}
		if Check(p) != api.OK || !Allows(p, list(elem("x"))) || First(p, list(elem("z"))) != "<z>" {
			t.Error("Check, Allows, First")
		}
	}
	if wholePolicy(p) != was {
		t.Error("the policy was changed")
	}
}

// Promise 16.2: nodes far deeper, and far more of them, than the limits.
func TestGreat(t *testing.T) {
	p := small()
	const deep = 1000000
	for _, n := range []struct {
		inner api.Node
		first string
	}{{text("a"), ""}, {elem("y"), "<y>"}} {
		l := list(n.inner)
		for range deep {
			l = list(elem("k", l...))
		}
		if Allows(p, l) != (n.first == "") || First(p, l) != n.first {
			t.Errorf("deep nodes around %v", n.inner)
		}
	}
	l := slices.Repeat(list(with(elem("x", text("b")), "a", "", "l", "/"), text("c")), 100000)
	if !Allows(p, l) || First(p, append(l, elem("z"))) != "<z>" {
		t.Error("many nodes")
	}
}

// addresses are the values of all attributes of nodes that lead somewhere.
func addresses(l []api.Node) []string {
	var all []string
	for _, n := range l {
		for _, a := range n.Attrs {
			if a.Name != "title" && a.Name != "alt" && a.Name != "class" {
				all = append(all, a.Value)
			}
		}
		all = append(all, addresses(n.Kids)...)
	}
	return all
}

// Promise 16.3: the plain policy is right, and allows no address that leads to a script.
func TestNoScript(t *testing.T) {
	p := Plain()
	if e := Check(p); e != api.OK {
		t.Fatalf("Check(Plain()): %v", e)
	}
	scripts := []string{"javascript:x", "JaVaScRiPt:x", " javascript:x", "\tjava\nscr\ript\t:x", "\x00\x1fjavascript:x", "vbscript:x", "data:text/html,<script>x</script>", "javascript://h/p?q#m", "livescript:x", "blob:x", "JAVASCRIPT:"}
	names := strings.Fields("p div h1 h2 h3 ul ol li blockquote pre b i em strong u code br hr span table caption tbody thead tr td th section a img script style font svg math body iframe form embed object link base input")
	attrs := strings.Fields("href src action formaction data xlink:href background cite longdesc poster srcset style onclick onload class title alt")
	allowed := 0
	for _, s := range append(scripts, "http:x", "/x", "x", "") {
		for _, name := range names {
			for _, attr := range attrs {
				for space := range 3 {
					n := in(space, with(elem(name), attr, s))
					for _, l := range [][]api.Node{list(n), list(elem("p", text("a"), n)), list(with(elem("a", n), "href", "/"))} {
						if !Allows(p, l) {
							continue
						}
						allowed++
						for _, a := range addresses(l) {
							if scheme, has := urls.Scheme(a); has && !slices.Contains([]string{"http", "https", "mailto"}, scheme) {
								t.Fatalf("allowed: %v", l)
							}
						}
					}
				}
			}
		}
	}
	if allowed == 0 {
		t.Error("nothing is allowed")
	}
}

// Promise 16.3: the same of what is read.
func TestNoScriptRead(t *testing.T) {
	for s, first := range map[string]string{
		"<a href=javascript:x>y</a>":             "<a href=\"javascript:x\">",
		"<a href='java&#10;script:x'>y</a>":      "<a href=\"java\nscript:x\">",
		"<a href=&#1;JAVASCRIPT:x>y":             "<a href=\"\x01JAVASCRIPT:x\">",
		"<p><img src=data:x>":                    "<img src=\"data:x\">",
		"<p>a<script>b</script>":                 "<script>",
		"<svg><a href=/>":                        "<svg>",
		"<b onclick=x>":                          "<b onclick=\"x\">",
		"a<!--c-->":                              "c",
		"<a href=//h/javascript:x title=data:y>": "",
		"<p>a<p>b<img src=/x alt=y>":             "",
	} {
		l, e := build.Ready(s)
		if e != api.OK {
			t.Fatalf("Ready(%q): %v", s, e)
		}
		holdNodes(t, Plain(), l, first == "", first)
	}
}
