package filter

import (
	"fmt"
	"math/rand"
	"strings"
	"testing"

	"recto/api"
	"recto/policy"
	"recto/tree"
)

func text(s string) api.Node { return api.Node{Kind: api.Text, Text: s} }
func note(s string) api.Node { return api.Node{Kind: api.Comment, Text: s} }

func elem(name string, kids ...api.Node) api.Node {
	return api.Node{Kind: api.Element, Name: name, Kids: kids}
}

func in(space int, n api.Node) api.Node {
	n.Space = space
	return n
}

func with(n api.Node, attrs ...string) api.Node {
	n.Attrs = nil
	for i := 0; i < len(attrs); i += 2 {
		n.Attrs = append(n.Attrs, api.Attr{Name: attrs[i], Value: attrs[i+1]})
	}
	return n
}

// below is a node with other kids, whatever its Kind.
func below(n api.Node, kids ...api.Node) api.Node {
	n.Kids = kids
	return n
}

func list(l ...api.Node) []api.Node { return l }

// small is a right policy with an act of each kind: of x, k and the void br Keep, of y Open, of z Drop.
func small() policy.Policy {
	return policy.Policy{
		Rules: []policy.Rule{
			{Name: "x", Act: policy.Keep, Attrs: []string{"a", "b"}, Links: []string{"l", "m"}},
			{Name: "y", Act: policy.Open, Attrs: []string{"a"}, Links: []string{"l"}},
			{Name: "z", Act: policy.Drop, Attrs: []string{"a"}, Links: []string{"l"}},
			{Name: "k", Act: policy.Keep},
			{Name: "br", Act: policy.Keep, Attrs: []string{"a"}},
		},
		Schemes: []string{"s"},
		Others:  policy.Open,
		Strange: policy.Drop,
	}
}

// other is small with Others that are dropped and Strange that is opened, and unlike acts of void elements.
func other() policy.Policy {
	p := small()
	p.Others, p.Strange = policy.Drop, policy.Open
	p.Rules = append(p.Rules, policy.Rule{Name: "wbr", Act: policy.Open}, policy.Rule{Name: "hr", Act: policy.Drop}, policy.Rule{Name: "img", Act: policy.Keep})
	return p
}

// names are that many names, each another one.
func names(begin string, n int) []string {
	var l []string
	for i := range n {
		l = append(l, fmt.Sprint(begin, i))
	}
	return l
}

// wide is a right policy that lets an x have as many attributes as a rule can.
func wide() policy.Policy {
	return policy.Policy{
		Rules:  []policy.Rule{{Name: "x", Act: policy.Keep, Attrs: names("a", 20), Links: names("l", 20)}},
		Others: policy.Open, Strange: policy.Drop,
	}
}

// wrong are policies that are not right, with Check's error of each.
func wrong() []struct {
	p policy.Policy
	e api.Errno
} {
	changed := func(change func(p *policy.Policy)) policy.Policy {
		p := small()
		change(&p)
		return p
	}
	return []struct {
		p policy.Policy
		e api.Errno
	}{
		{policy.Policy{}, api.ErrForm},
		{changed(func(p *policy.Policy) { p.Others = policy.Keep }), api.ErrForm},
		{changed(func(p *policy.Policy) { p.Strange = policy.Keep }), api.ErrForm},
		{changed(func(p *policy.Policy) { p.Rules[3].Name = "script" }), api.ErrForm},
		{changed(func(p *policy.Policy) { p.Rules[2].Act = 0 }), api.ErrForm},
		{changed(func(p *policy.Policy) { p.Rules[4].Attrs[0] = "A" }), api.ErrForm},
		{changed(func(p *policy.Policy) { p.Schemes[0] = "" }), api.ErrForm},
		{changed(func(p *policy.Policy) { p.Rules[4].Name = "x" }), api.ErrSame},
		{changed(func(p *policy.Policy) { p.Rules[0].Links[1] = "a" }), api.ErrSame},
		{changed(func(p *policy.Policy) { p.Schemes = names("s", 21) }), api.ErrLong},
		{changed(func(p *policy.Policy) { p.Rules[1].Attrs = names("a", 21) }), api.ErrLong},
		{changed(func(p *policy.Policy) { p.Rules = make([]policy.Rule, policy.Most+1) }), api.ErrLong},
	}
}

// show is nodes in short: 'words', and names with attributes and, in brackets, kids; with all that is not as of what is left.
func show(l []api.Node) string {
	var b strings.Builder
	for _, n := range l {
		switch n.Kind {
		case api.Text:
			b.WriteString("'" + n.Text + "'")
		case api.Element:
			b.WriteString(n.Name)
		default:
			fmt.Fprintf(&b, "?%d", n.Kind)
		}
		if n.Space != 0 {
			fmt.Fprintf(&b, "/space %d", n.Space)
		}
		for _, a := range n.Attrs {
			b.WriteString(" " + a.Name + "=" + a.Value)
		}
		if n.Kind == api.Element {
			b.WriteString("(" + show(n.Kids) + ")")
		}
		if n.Kind != api.Element && (n.Name != "" || len(n.Kids) > 0) || n.Kind != api.Text && n.Text != "" {
			fmt.Fprintf(&b, "/more %q %q %v", n.Name, n.Text, n.Kids)
		}
	}
	return b.String()
}

// whole tells all that nodes have, so that a change shows; spare room too.
func whole(l []api.Node) string {
	var b strings.Builder
	for i, n := range l[:cap(l)] {
		fmt.Fprintf(&b, "(%v %d %d %q %q %q", i < len(l), n.Kind, n.Space, n.Name, n.Attrs[:cap(n.Attrs)], n.Text)
		b.WriteString(whole(n.Kids) + ")")
	}
	return b.String()
}

// wholePolicy tells all that a policy has, so that a change shows; spare room too.
func wholePolicy(p policy.Policy) string {
	s := fmt.Sprintf("%d %d %d %q %d", p.Others, p.Strange, len(p.Schemes), p.Schemes[:cap(p.Schemes)], len(p.Rules))
	for _, r := range p.Rules[:cap(p.Rules)] {
		s += fmt.Sprintf("(%q %d %d %q %d %q)", r.Name, r.Act, len(r.Attrs), r.Attrs[:cap(r.Attrs)], len(r.Links), r.Links[:cap(r.Links)])
	}
	return s
}

// spoil writes over all of nodes, spare room too.
func spoil(l []api.Node) {
	l = l[:cap(l)]
	for i := range l {
		spoil(l[i].Kids)
		attrs := l[i].Attrs[:cap(l[i].Attrs)]
		for j := range attrs {
			attrs[j] = api.Attr{Name: "spoilt", Value: "spoilt"}
		}
		l[i] = api.Node{Kind: 99, Name: "spoilt", Text: "spoilt"}
	}
}

// widen puts something behind each list, as spare room has it: where lists share memory, it shows.
func widen(l []api.Node) {
	for i := range l {
		_ = append(l[i].Kids, api.Node{Kind: 98})
		_ = append(l[i].Attrs, api.Attr{Name: "wide"})
		widen(l[i].Kids)
	}
	_ = append(l, api.Node{Kind: 98})
}

// plainRight is a text made right, as the chapter tells it: byte by byte, with what Go takes for UTF-8.
func plainRight(s string) string {
	return strings.NewReplacer("\r", "\n", "\x00", "\ufffd").Replace(string([]rune(s)))
}

// plainLeft is what is left of nodes by a right policy, as the chapter tells it; what is lost is counted.
func plainLeft(p policy.Policy, l []api.Node, lost *Lost) []api.Node {
	var left []api.Node
	for _, n := range l {
		var some []api.Node
		switch {
		case n.Kind == api.Text:
			some = list(text(plainRight(n.Text)))
		case n.Kind != api.Element:
			lost.Others++
		case policy.Act(p, n.Space, n.Name) == policy.Drop:
			lost.Dropped++
		case policy.Act(p, n.Space, n.Name) == policy.Open:
			lost.Opened++
			some = plainLeft(p, n.Kids, lost)
		default:
			some = list(plainElement(p, n, lost))
		}
		for _, m := range some {
			last := len(left) - 1
			switch {
			case m.Kind != api.Text:
				left = append(left, m)
			case m.Text == "":
			case last >= 0 && left[last].Kind == api.Text:
				left[last].Text += m.Text
			default:
				left = append(left, m)
			}
		}
	}
	return left
}

func plainElement(p policy.Policy, n api.Node, lost *Lost) api.Node {
	kept := api.Node{Kind: api.Element, Name: n.Name, Kids: plainLeft(p, n.Kids, lost)}
	if strings.Contains(" br hr img input wbr ", " "+n.Name+" ") {
		kept.Kids = nil
	}
	had := map[string]bool{}
	for _, a := range n.Attrs {
		if policy.Stays(p, n.Name, a) && !had[a.Name] && len(had) < 12 {
			had[a.Name] = true
			kept.Attrs = append(kept.Attrs, api.Attr{Name: a.Name, Value: plainRight(a.Value)})
		} else {
			lost.Attrs++
		}
	}
	return kept
}

// words are all texts of nodes.
func words(l []api.Node) string {
	s := ""
	for _, n := range l {
		if n.Kind == api.Text {
			s += n.Text
		}
		s += words(n.Kids)
	}
	return s
}

// hold asks what is left of nodes, as show tells it, and what is lost; and all that follows.
func hold(t *testing.T, p policy.Policy, l []api.Node, want string, lost Lost) {
	t.Helper()
	m, e := Nodes(p, l)
	if s := show(m); s != want || e != api.OK {
		t.Errorf("Nodes(%v): %q, %v; want %q", l, s, e, want)
	}
	if c, e := Count(p, l); c != lost || e != api.OK {
		t.Errorf("Count(%v): %v, %v; want %v", l, c, e, lost)
	}
	holdAll(t, p, l)
}

// holdAll asks of all calls what the chapter tells, that what was handed in is as it was, and that what is handed out is new memory.
func holdAll(t *testing.T, p policy.Policy, l []api.Node) {
	t.Helper()
	was := whole(l) + wholePolicy(p)
	var lost Lost
	want := plainLeft(p, l, &lost)
	for range 2 {
		m, e := Nodes(p, l)
		if !tree.Same(m, want) || e != api.OK {
			t.Fatalf("Nodes(%v): %q, %v; want %q", l, show(m), e, show(want))
		}
		if c, e := Count(p, l); c != lost || e != api.OK {
			t.Fatalf("Count(%v): %v, %v; want %v", l, c, e, lost)
		}
		if s, e := Words(p, l); s != words(want) || e != api.OK {
			t.Fatalf("Words(%v): %q, %v; want %q", l, s, e, words(want))
		}
		holdLeft(t, p, m)
		widen(m)
		if !tree.Same(m, want) {
			t.Fatalf("two lists of an answer share memory: %q", show(want))
		}
		spoil(m)
		if whole(l)+wholePolicy(p) != was {
			t.Fatalf("what was handed in was changed, or handed out: %s", was)
		}
	}
}

// holdLeft asks what follows of what is left: it is allowed, and what is left of it is itself, with nothing lost.
func holdLeft(t *testing.T, p policy.Policy, m []api.Node) {
	t.Helper()
	if !policy.Allows(p, m) {
		t.Fatalf("what is left is not allowed: %q", show(m))
	}
	if again, e := Nodes(p, m); !tree.Same(again, m) || e != api.OK {
		t.Fatalf("what is left of %q is %q, %v", show(m), show(again), e)
	}
	if c, e := Count(p, m); c != (Lost{}) || e != api.OK {
		t.Fatalf("lost of %q, which was left: %v, %v", show(m), c, e)
	}
}

// some is a list of nodes, by chance, with all that may be wrong.
func some(r *rand.Rand, deep int) []api.Node {
	elems := []string{"x", "x", "k", "br", "y", "z", "w", "wbr", "hr", "img", ""}
	texts := []string{"t", "u", "", "\r\n", "\x00", "\xff", "\xc3", "\xa9", "\u20ac"}
	attrs := []string{"a", "b", "l", "m", "c", "A"}
	values := []string{"", "s:x", "/y", "q:z", "\r", "\x00q:z", "q\x00:z", "\xff"}
	var l []api.Node
	for range r.Intn(5) {
		n := api.Node{Kind: api.Element, Name: elems[r.Intn(len(elems))]}
		switch r.Intn(12) {
		case 0:
			n.Space = r.Intn(5) - 1
		case 1:
			n.Kind = r.Intn(6) - 1
		case 2:
			n.Text = "T"
		case 3, 4, 5, 6:
			n = text(texts[r.Intn(len(texts))])
		}
		for range r.Intn(4) * r.Intn(2) {
			n.Attrs = append(n.Attrs, api.Attr{Name: attrs[r.Intn(len(attrs))], Value: values[r.Intn(len(values))]})
		}
		if deep > 0 && (n.Kind != api.Text || r.Intn(4) == 0) {
			n.Kids = some(r, deep-1)
		}
		l = append(l, n)
	}
	return l
}
