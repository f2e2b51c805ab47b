package filter

import (
	"slices"
	"strings"

	"recto/api"
	"recto/policy"
	"recto/tags"
	"recto/utf"
)

// sieve gathers what is left of nodes by a policy that is right, and counts what is lost.
type sieve struct {
	policy policy.Policy
	lost   Lost
	lists  [][]api.Node // what is left yet: of the nodes that were handed in, and of the Kids of each kept element that is begun
	words  []byte       // the words that end the last list: texts side by side become one node, when something else comes
}

// take does with a node, but for its Kids, what is to be done, and answers what is done behind these, or nil, if nothing of them counts.
func (s *sieve) take(n *api.Node) func() {
	switch n.Kind {
	case api.Text:
		s.words = append(s.words, right(n.Text)...)
		return nil
	case api.Element:
		return s.element(n)
	}
	s.lost.Others++
	return nil
}

func (s *sieve) element(n *api.Node) func() {
	rules := s.about(n.Name)
	switch policy.Act(rules, n.Space, n.Name) {
	case policy.Keep:
		return s.keep(n, rules)
	case policy.Open:
		s.lost.Opened++
		return s.leaveOpened
	}
	s.lost.Dropped++
	return nil
}

func (s *sieve) keep(n *api.Node, rules policy.Policy) func() {
	s.put(api.Node{Kind: api.Element, Name: n.Name, Attrs: s.attrs(n, rules)})
	s.lists = append(s.lists, nil)
	if tags.Void(n.Name) {
		return s.leaveVoid
	}
	return s.leaveKept
}

func (s *sieve) leaveKept() {
	kids := s.endList()
	last := s.last()
	(*last)[len(*last)-1].Kids = kids
}

// leaveVoid has nothing left of the Kids, though what is lost of them was counted.
func (s *sieve) leaveVoid() {
	s.endList()
}

// leaveOpened does nothing: what is left of the Kids stands where the element stood, so that texts at its edges join those around it.
func (s *sieve) leaveOpened() {}

// attrs are the attributes of a kept element that stay.
func (s *sieve) attrs(n *api.Node, rules policy.Policy) []api.Attr {
	var stay []api.Attr
	for _, a := range n.Attrs {
		isSame := func(b api.Attr) bool { return b.Name == a.Name }
		if len(stay) == api.MaxAttrs || slices.ContainsFunc(stay, isSame) || !policy.Stays(rules, n.Name, a) {
			s.lost.Attrs++
			continue
		}
		stay = append(stay, api.Attr{Name: a.Name, Value: right(a.Value)})
	}
	return stay
}

// about is the policy with no rule but that of a name. It tells the same of elements of that name, and is quickly asked: policy's calls look at the whole of a policy each time.
func (s *sieve) about(name string) policy.Policy {
	p := s.policy
	at := slices.IndexFunc(p.Rules, func(r policy.Rule) bool { return r.Name == name })
	if at < 0 {
		p.Rules = nil
	} else {
		p.Rules = p.Rules[at : at+1]
	}
	return p
}

// last is the last list.
func (s *sieve) last() *[]api.Node {
	return &s.lists[len(s.lists)-1]
}

// put puts a node that is no text at the end of the last list.
func (s *sieve) put(n api.Node) {
	s.endWords()
	last := s.last()
	*last = append(*last, n)
}

// endWords makes a text of the words that end the last list.
func (s *sieve) endWords() {
	if len(s.words) == 0 {
		return
	}
	last := s.last()
	*last = append(*last, api.Node{Kind: api.Text, Text: string(s.words)})
	s.words = s.words[:0]
}

// endList takes the last list off.
func (s *sieve) endList() []api.Node {
	s.endWords()
	l := *s.last()
	s.lists = s.lists[:len(s.lists)-1]
	return l
}

// right is a text or a value made right.
func right(s string) string {
	s = strings.ReplaceAll(s, "\r", "\n")
	s = strings.ReplaceAll(s, "\x00", utf.Bytes(utf.Stranger))
	return utf.Clean(s)
}
