package arena

import (
	"math/rand"
	"slices"
	"testing"

	"recto/api"
)

// plainNode is a node that points at others, as the chapter's words have it, with nothing kept twice but the parent.
type plainNode struct {
	api.Node
	parent *plainNode
	kids   []*plainNode
}

// plainArena is the chapter's words over such nodes.
type plainArena []*plainNode

func (a plainArena) node(id int) *plainNode {
	if id < 0 || id >= len(a) {
		return nil
	}
	return a[id]
}

func (a plainArena) element(id int) *plainNode {
	if n := a.node(id); n != nil && n.Kind == api.Element {
		return n
	}
	return nil
}

// below are all nodes below one.
func (n *plainNode) below() []*plainNode {
	var l []*plainNode
	for _, k := range n.kids {
		l = append(append(l, k), k.below()...)
	}
	return l
}

func (n *plainNode) holds(other *plainNode) bool {
	return n == other || slices.Contains(n.below(), other)
}

// free tells whether a node may be put somewhere.
func (a plainArena) free(n *plainNode) bool { return n != a[0] && n.parent == nil }

func (n *plainNode) insert(at int, k *plainNode) {
	n.kids = slices.Insert(n.kids, at, k)
	k.parent = n
}

func (a *plainArena) create(n api.Node) (int, api.Errno) {
	if len(*a) == Most {
		return 0, api.ErrFull
	}
	*a = append(*a, &plainNode{Node: n})
	return len(*a) - 1, api.OK
}

func (a plainArena) append(parent, id int) api.Errno {
	p, n := a.element(parent), a.node(id)
	if p == nil || n == nil {
		return api.ErrArg
	}
	if !a.free(n) || n.holds(p) {
		return api.ErrState
	}
	p.insert(len(p.kids), n)
	return api.OK
}

func (a plainArena) before(next, id int) api.Errno {
	x, n := a.node(next), a.node(id)
	if x == nil || n == nil {
		return api.ErrArg
	}
	if x.parent == nil || !a.free(n) || n.holds(x) {
		return api.ErrState
	}
	x.parent.insert(slices.Index(x.parent.kids, x), n)
	return api.OK
}

func (a plainArena) detach(id int) api.Errno {
	n := a.node(id)
	if n == nil {
		return api.ErrArg
	}
	if n.parent == nil {
		return api.ErrState
	}
	n.parent.kids = slices.DeleteFunc(n.parent.kids, func(k *plainNode) bool { return k == n })
	n.parent = nil
	return api.OK
}

func (a plainArena) give(from, to int) api.Errno {
	f, n := a.element(from), a.element(to)
	if f == nil || n == nil {
		return api.ErrArg
	}
	if f.holds(n) {
		return api.ErrState
	}
	for _, k := range f.kids {
		n.insert(len(n.kids), k)
	}
	f.kids = nil
	return api.OK
}

func (a *plainArena) put(p *plainNode, at int, s string) api.Errno {
	if at > 0 && p.kids[at-1].Kind == api.Text {
		p.kids[at-1].Text += s
		return api.OK
	}
	id, err := a.create(api.Node{Kind: api.Text, Text: s})
	if err == api.OK {
		p.insert(at, (*a)[id])
	}
	return err
}

func (a *plainArena) words(parent int, s string) api.Errno {
	p := a.element(parent)
	if p == nil || s == "" {
		return api.ErrArg
	}
	return a.put(p, len(p.kids), s)
}

func (a *plainArena) wordsBefore(next int, s string) api.Errno {
	x := a.node(next)
	if x == nil || s == "" {
		return api.ErrArg
	}
	if x.parent == nil {
		return api.ErrState
	}
	return a.put(x.parent, slices.Index(x.parent.kids, x), s)
}

// nodes are kids as nodes, texts side by side as one.
func (n *plainNode) nodes() []api.Node {
	var l []api.Node
	for i, k := range n.kids {
		if i > 0 && k.Kind == api.Text && n.kids[i-1].Kind == api.Text {
			l[len(l)-1].Text += k.Text
			continue
		}
		x := k.Node
		x.Kids = k.nodes()
		l = append(l, x)
	}
	return l
}

// agree fails, if an arena tells something else than the plain one.
func agree(t testing.TB, what string, a *Arena, p plainArena) {
	t.Helper()
	if a.Len() != len(p) {
		t.Fatalf("%s: Len: %d; want %d", what, a.Len(), len(p))
	}
	for id, n := range p {
		parent, has := a.Parent(id)
		if has != (n.parent != nil) || has && p[parent] != n.parent || !has && parent != 0 {
			t.Fatalf("%s: the parent of %d: %d, %v", what, id, parent, has)
		}
		kids := a.Kids(id)
		if !slices.EqualFunc(kids, n.kids, func(k int, m *plainNode) bool { return p[k] == m }) {
			t.Fatalf("%s: the kids of %d: %v", what, id, kids)
		}
	}
	if got, want := told(a.Tree()), told(p[0].nodes()); got != want {
		t.Fatalf("%s: %s; want %s", what, got, want)
	}
}

// Promises 11.1 to 11.4: long rows of calls of all kinds, right and wrong ones, against the plain arena.
func TestPlain(t *testing.T) {
	for seed := range 400 {
		r := rand.New(rand.NewSource(int64(seed)))
		a, p := New(), plainArena{{Node: api.Node{Kind: api.Element}}}
		most := 3 + r.Intn(12)
		for step := range 150 {
			// Few nodes, so that calls meet the same ones again.
			x, y := r.Intn(len(p)+2)-1, r.Intn(len(p)+2)-1
			s := []string{"", "a", "bc"}[r.Intn(3)]
			var got, want api.Errno
			var id, wantID int
			kind := r.Intn(10)
			if len(p) >= most && kind < 2 {
				kind += 2
			}
			switch kind {
			case 0:
				id, got = a.Element(step%3, "e", []api.Attr{{Name: "a", Value: s}})
				wantID, want = p.create(api.Node{Kind: api.Element, Space: step % 3, Name: "e", Attrs: []api.Attr{{Name: "a", Value: s}}})
			case 1:
				id, got = a.Comment(s)
				wantID, want = p.create(api.Node{Kind: api.Comment, Text: s})
			case 2, 3:
				got, want = a.Append(x, y), p.append(x, y)
			case 4, 5:
				got, want = a.Before(x, y), p.before(x, y)
			case 6:
				got, want = a.Detach(x), p.detach(x)
			case 7:
				got, want = a.Give(x, y), p.give(x, y)
			case 8:
				got, want = a.Words(x, s), p.words(x, s)
			case 9:
				got, want = a.WordsBefore(x, s), p.wordsBefore(x, s)
			}
			if got != want || id != wantID {
				t.Fatalf("%d, %d: call %d of %d, %d, %q: %d, %v; want %d, %v", seed, step, kind, x, y, s, id, got, wantID, want)
			}
			agree(t, "a row of calls", a, p)
		}
		sound(t, "a row of calls", a)
		plain(t, "a row of calls", a.Tree())
	}
}
