package merge

import (
	"slices"

	"recto/api"
	"recto/tree"
)

// Mark is a mark of two lists.
func Mark(a, b []api.Node) api.Node {
	return section("clash", []api.Node{
		section("ours", join(tree.Copy(a))),
		section("theirs", join(tree.Copy(b))),
	})
}

// section is an element such as marks are made of.
func section(class string, kids []api.Node) api.Node {
	return api.Node{Kind: api.Element, Name: "section", Attrs: []api.Attr{{Name: "class", Value: class}}, Kids: kids}
}

// IsMark tells whether a node is a mark of some two lists. These may be any lists, those that Mark would not leave as they are too.
func IsMark(n api.Node) bool {
	return isSection(&n, "clash") && len(n.Kids) == 2 && isSection(&n.Kids[0], "ours") && isSection(&n.Kids[1], "theirs")
}

// isSection tells whether a node is a section of that class, whatever its Kids are.
func isSection(n *api.Node, class string) bool {
	is := section(class, nil)
	return n.Kind == is.Kind && n.Space == is.Space && n.Name == is.Name && n.Text == is.Text && slices.Equal(n.Attrs, is.Attrs)
}

// Marks is how many marks there are.
func Marks(l []api.Node) int {
	count := 0
	left := [][]api.Node{l}
	for len(left) > 0 {
		last := len(left) - 1
		here := left[last]
		left = left[:last]
		for _, n := range here {
			if IsMark(n) {
				count++
				continue
			}
			left = append(left, n.Kids)
		}
	}
	return count
}

// Pick is a page with one side in the place of each mark.
func Pick(l []api.Node, theirs bool) []api.Node {
	side := 0
	if theirs {
		side = 1
	}
	return grow(l, func(l []api.Node) ([]api.Node, []later[[]api.Node]) {
		return pick(l, side)
	})
}

// pick is a list with one side in the place of each mark in it, and of which of its nodes the Kids are yet to be picked from.
func pick(l []api.Node, side int) ([]api.Node, []later[[]api.Node]) {
	var all []api.Node
	var kids []later[[]api.Node]
	for _, n := range l {
		if IsMark(n) {
			all = append(all, tree.Copy(n.Kids[side].Kids)...)
			continue
		}
		kids = append(kids, later[[]api.Node]{len(all), n.Kids})
		n.Attrs, n.Kids = slices.Clone(n.Attrs), nil
		all = append(all, n)
	}
	return all, kids
}
