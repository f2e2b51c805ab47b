package blend

import (
	"slices"

	"recto/api"
	"recto/match"
	"recto/tree"
)

// three are the lists that are lined up: what there was, ours and theirs; and what tells whether two of their items are the same.
type three[T any] struct {
	o, a, b []T
	equal   func(x, y T) bool
}

// parts are the parts of three lists, by the pairs of what there was with ours, and with theirs.
func (l *three[T]) parts(ours, theirs []match.Pair) []Part {
	var all []Part
	i, j, k := 0, 0, 0
	for _, t := range triples(ours, theirs) {
		all = l.appendStretch(all, Range{i, t.O.From}, Range{j, t.A.From}, Range{k, t.B.From})
		all = append(all, t)
		i, j, k = t.O.To, t.A.To, t.B.To
	}
	return l.appendStretch(all, Range{i, len(l.o)}, Range{j, len(l.a)}, Range{k, len(l.b)})
}

// triples are the places of what there was that are in a pair of both, with their fellows. Pairs rise, so both rows are gone through side by side.
func triples(ours, theirs []match.Pair) []Part {
	var all []Part
	for len(ours) > 0 && len(theirs) > 0 {
		p, q := ours[0], theirs[0]
		switch {
		case p.A < q.A:
			ours = ours[1:]
		case q.A < p.A:
			theirs = theirs[1:]
		default:
			all = append(all, Part{Kept, one(p.A), one(p.B), one(q.B)})
			ours, theirs = ours[1:], theirs[1:]
		}
	}
	return all
}

// one is the range of one place.
func one(place int) Range { return Range{place, place + 1} }

// appendStretch adds a stretch, if it is something.
func (l *three[T]) appendStretch(all []Part, o, a, b Range) []Part {
	if o.From == o.To && a.From == a.To && b.From == b.To {
		return all
	}
	was, ours, theirs := l.o[o.From:o.To], l.a[a.From:a.To], l.b[b.From:b.To]
	kind := Clash
	switch {
	case same(ours, was, l.equal):
		kind = Theirs
	case same(theirs, was, l.equal):
		kind = Ours
	case same(ours, theirs, l.equal):
		kind = Both
	}
	return append(all, Part{kind, o, a, b})
}

// same tells whether two stretches are the same.
func same[T any](a, b []T, equal func(x, y T) bool) bool {
	return slices.EqualFunc(a, b, equal)
}

// sameNode tells whether two nodes are the same.
func sameNode(x, y api.Node) bool {
	return tree.Same([]api.Node{x}, []api.Node{y})
}
