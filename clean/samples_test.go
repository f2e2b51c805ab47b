package clean

import (
	"fmt"
	"math/rand"
	"slices"
	"strings"
	"testing"

	"recto/api"
	"recto/build"
	"recto/filter"
	"recto/policy"
	"recto/print"
	"recto/round"
	"recto/tree"
)

func text(s string) api.Node { return api.Node{Kind: api.Text, Text: s} }
func note(s string) api.Node { return api.Node{Kind: api.Comment, Text: s} }

func elem(name string, kids ...api.Node) api.Node {
	return api.Node{Kind: api.Element, Name: name, Kids: kids}
}

func in(space int, n api.Node) api.Node {
	n.Space = space
	return n
}

func with(n api.Node, attrs ...string) api.Node {
	n.Attrs = nil
	for i := 0; i < len(attrs); i += 2 {
		n.Attrs = append(n.Attrs, api.Attr{Name: attrs[i], Value: attrs[i+1]})
	}
	return n
}

// below is a node with other kids, whatever its Kind.
func below(n api.Node, kids ...api.Node) api.Node {
	n.Kids = kids
	return n
}

func list(l ...api.Node) []api.Node { return l }

// inside is what l is in that many elements.
func inside(name string, n int, l ...api.Node) []api.Node {
	for range n {
		l = list(elem(name, l...))
	}
	return l
}

// changed is the plain policy with another act of some names.
func changed(act int, names string) policy.Policy {
	p := policy.Plain()
	for i, r := range p.Rules {
		if slices.Contains(strings.Fields(names), r.Name) {
			p.Rules[i].Act = act
		}
	}
	return p
}

// opening is the plain policy, but SVG and Math are opened.
func opening() policy.Policy {
	p := policy.Plain()
	p.Strange = policy.Open
	return p
}

// odd keeps what the plain policy doesn't, and opens what stands between.
func odd() policy.Policy {
	return policy.Policy{
		Rules: []policy.Rule{
			{Name: "p", Act: policy.Keep, Attrs: []string{"a", "b"}},
			{Name: "a", Act: policy.Keep, Links: []string{"href"}},
			{Name: "b", Act: policy.Keep},
			{Name: "td", Act: policy.Keep},
			{Name: "li", Act: policy.Keep},
			{Name: "pre", Act: policy.Keep},
			{Name: "input", Act: policy.Keep},
			{Name: "desc", Act: policy.Keep},
			{Name: "mi", Act: policy.Keep},
			{Name: "noscript", Act: policy.Keep},
			{Name: "style", Act: policy.Open},
			{Name: "i", Act: policy.Drop},
		},
		Others: policy.Open, Strange: policy.Open,
	}
}

// wrong are policies that are not right, with Check's error of each.
func wrong() map[string]struct {
	p policy.Policy
	e api.Errno
} {
	same, long := policy.Plain(), policy.Plain()
	same.Rules[3].Name = "p"
	long.Rules = make([]policy.Rule, policy.Most+1)
	return map[string]struct {
		p policy.Policy
		e api.Errno
	}{
		"zero":         {policy.Policy{}, api.ErrForm},
		"keeps script": {changed(policy.Keep, "script"), api.ErrForm},
		"no act":       {changed(4, "td"), api.ErrForm},
		"one Name":     {same, api.ErrSame},
		"many rules":   {long, api.ErrLong},
	}
}

// whole tells all that nodes have, so that a change shows; spare room too.
func whole(l []api.Node) string {
	var b strings.Builder
	for i, n := range l[:cap(l)] {
		fmt.Fprintf(&b, "(%v %d %d %q %q %q", i < len(l), n.Kind, n.Space, n.Name, n.Attrs[:cap(n.Attrs)], n.Text)
		b.WriteString(whole(n.Kids) + ")")
	}
	return b.String()
}

// spoil writes over all of nodes, spare room too.
func spoil(l []api.Node) {
	l = l[:cap(l)]
	for i := range l {
		spoil(l[i].Kids)
		attrs := l[i].Attrs[:cap(l[i].Attrs)]
		for j := range attrs {
			attrs[j] = api.Attr{Name: "spoilt", Value: "spoilt"}
		}
		l[i] = api.Node{Kind: 99, Name: "spoilt", Text: "spoilt"}
	}
}

// widen puts something behind each list, as spare room has it: where lists share memory, it shows.
func widen(l []api.Node) {
	for i := range l {
		_ = append(l[i].Kids, api.Node{Kind: 98})
		_ = append(l[i].Attrs, api.Attr{Name: "wide"})
		widen(l[i].Kids)
	}
	_ = append(l, api.Node{Kind: 98})
}

// plainNodes is Nodes, told as the chapter has it, with the round in which it ended: done, or by an error of a round.
func plainNodes(p policy.Policy, l []api.Node) ([]api.Node, int, api.Errno) {
	there, _ := filter.Nodes(p, l)
	for n := 1; n <= 6; n++ {
		read, e := build.Ready(print.Text(there))
		if e != api.OK {
			return nil, n, e
		}
		if tree.Same(read, there) {
			return there, n, tree.Check(there)
		}
		there, _ = filter.Nodes(p, read)
	}
	return nil, 0, api.ErrShift
}

// holdNodes asks Nodes what the chapter tells, that what was handed in is as it was, and that what is handed out is new memory, and clean.
func holdNodes(t *testing.T, p policy.Policy, l []api.Node) {
	t.Helper()
	was, rules := whole(l), fmt.Sprint(p)
	want, _, err := plainNodes(p, l)
	for range 2 {
		m, e := Nodes(p, l)
		if e != err || !tree.Same(m, want) || e != api.OK && len(m) > 0 {
			t.Fatalf("Nodes(%s): %s, %v; want %s, %v", was, print.Text(m), e, print.Text(want), err)
		}
		if e == api.OK {
			holdClean(t, p, m)
		}
		widen(m)
		if !tree.Same(m, want) {
			t.Fatalf("two lists of an answer share memory: %s", print.Text(want))
		}
		spoil(m)
		if whole(l) != was || fmt.Sprint(p) != rules {
			t.Fatalf("what was handed in was changed, or handed out: %s", was)
		}
	}
	back, e := build.Ready(print.Text(l))
	isClean := tree.Check(l) == api.OK && policy.Allows(p, l) && e == api.OK && tree.Same(back, l)
	if Is(p, l) != isClean || whole(l) != was {
		t.Fatalf("Is(%s): %v", was, !isClean)
	}
}

// holdText asks Page, Rounds and Text what the chapter tells, and answers in which round it ended.
func holdText(t *testing.T, p policy.Policy, s string) (int, api.Errno) {
	t.Helper()
	l, err := build.Ready(s)
	var want []api.Node
	rounds := 0
	if err == api.OK {
		want, rounds, err = plainNodes(p, l)
	}
	told := rounds
	if err != api.OK {
		told = 0
	}
	for range 2 {
		m, e := Page(p, s)
		if e != err || !tree.Same(m, want) || e != api.OK && len(m) > 0 {
			t.Fatalf("Page(%q): %s, %v; want %s, %v", s, print.Text(m), e, print.Text(want), err)
		}
		if n, e := Rounds(p, s); n != told || e != err {
			t.Fatalf("Rounds(%q): %d, %v; want %d, %v", s, n, e, told, err)
		}
		if x, e := Text(p, s); x != print.Text(want) || e != err {
			t.Fatalf("Text(%q): %q, %v; want %q, %v", s, x, e, print.Text(want), err)
		}
		if e == api.OK {
			holdClean(t, p, m)
		}
		widen(m)
		if !tree.Same(m, want) {
			t.Fatalf("two lists of an answer share memory: %s", print.Text(want))
		}
		spoil(m)
	}
	return rounds, err
}

// holdClean asks all that follows of what Page or Nodes answered: it is clean, stays as it is, in one round, and is the same bytes however often it is read and written.
func holdClean(t *testing.T, p policy.Policy, l []api.Node) {
	t.Helper()
	s := print.Text(l)
	if !Is(p, l) || tree.Check(l) != api.OK || !policy.Allows(p, l) || !round.Back(l) {
		t.Fatalf("it is not clean: %s", s)
	}
	if m, e := Nodes(p, l); !tree.Same(m, l) || e != api.OK {
		t.Fatalf("Nodes of the clean %s: %s, %v", s, print.Text(m), e)
	}
	if m, e := Page(p, s); !tree.Same(m, l) || e != api.OK {
		t.Fatalf("Page of the clean %s: %s, %v", s, print.Text(m), e)
	}
	if n, e := Rounds(p, s); n != 1 || e != api.OK {
		t.Fatalf("Rounds of the clean %s: %d, %v", s, n, e)
	}
	x := s
	for range 3 {
		m, e := build.Ready(x)
		x = print.Text(m)
		if x != s || e != api.OK || !policy.Allows(p, m) {
			t.Fatalf("what is read again of %s: %s, %v", s, x, e)
		}
	}
}

// someNodes are nodes by chance, most of them of names that move when they are read.
func someNodes(r *rand.Rand, depth int, left *int) []api.Node {
	names := strings.Fields("p p a a b i u table tr td tbody caption div li pre svg math mi title desc style xmp textarea br h1 span font script section")
	texts := []string{"x", "\n", "\n\ny", " ", "<", "</style>", "", "\xff", "\r", "\x00", "-->", "&amp;"}
	attrs := strings.Fields("href title class a onclick")
	values := []string{"", "/x", "javascript:x", "java\nscript:x", "\r", "\x00", "\"<"}
	var l []api.Node
	for k := r.Intn(4); k > 0 && *left > 0; k-- {
		*left--
		n := api.Node{Kind: api.Element, Name: names[r.Intn(len(names))], Space: max(0, r.Intn(20)-17)}
		switch r.Intn(9) {
		case 0, 1:
			n = text(texts[r.Intn(len(texts))])
		case 2:
			n = note(texts[r.Intn(len(texts))])
		case 3:
			n = with(n, attrs[r.Intn(len(attrs))], values[r.Intn(len(values))], attrs[r.Intn(len(attrs))], "/y")
		}
		if depth > 0 && n.Kind == api.Element {
			n.Kids = someNodes(r, depth-1, left)
		}
		l = append(l, n)
	}
	return l
}

// someText is a text by chance, with tags that are opened, closed, and not.
func someText(r *rand.Rand) string {
	pieces := []string{"x", " ", "\n", "\n\n", "\r\n", "\x00", "\xff", "&lt;b&gt;", "&#13;", "&amp;", "<!--c-->", "<![CDATA[d]]>", "<!", "<a href=javascript:x title=t>", "<a href=/x>", "<img src=x onerror=y>", "<section class=clash id=i>", "<svg/>", "</br>"}
	names := strings.Fields("p p a b i u em table tr td th tbody caption div li ul pre pre svg math mi mtext title desc foreignobject style xmp textarea br hr h1 h2 span font script blockquote body image input")
	var b strings.Builder
	for range 1 + r.Intn(40) {
		name := names[r.Intn(len(names))]
		switch r.Intn(6) {
		case 0, 1:
			b.WriteString(pieces[r.Intn(len(pieces))])
		case 2:
			b.WriteString("</" + name + ">")
		default:
			b.WriteString("<" + name + ">")
		}
	}
	return b.String()
}
