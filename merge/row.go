package merge

import (
	"strconv"
	"strings"

	"recto/api"
)

// row is a list of nodes, what is below each, and each one's number, which it has in common just with those that are the same with all that is below them.
type row struct {
	list    []api.Node
	below   []row
	numbers []int
}

func newRow(l []api.Node, n numbers) *row {
	first := &row{list: l}
	all := []*row{first}
	for i := 0; i < len(all); i++ {
		r := all[i]
		r.below = make([]row, len(r.list))
		for place := range r.list {
			r.below[place].list = r.list[place].Kids
			all = append(all, &r.below[place])
		}
	}
	// From the last one on: a list stands ahead of all that is below it, whose numbers are to be known first.
	for i := len(all) - 1; i >= 0; i-- {
		r := all[i]
		for place := range r.list {
			r.numbers = append(r.numbers, n.of(&r.list[place], r.below[place].numbers))
		}
	}
	return first
}

// kids is the row of the Kids of the node at a place.
func (r *row) kids(place int) *row { return &r.below[place] }

// standIns are nodes that are matched just as those of a row are: the Kind, Space and Name are theirs, the Text is their number.
// All that is below a node is gone through whenever it is matched; by these only once, however deep it lies.
func (r *row) standIns() []api.Node {
	var all []api.Node
	for place, n := range r.list {
		all = append(all, api.Node{Kind: n.Kind, Space: n.Space, Name: n.Name, Text: strconv.Itoa(r.numbers[place])})
	}
	return all
}

// numbers are those of all nodes that were met, by what they are.
type numbers map[string]int

// of is the number of a node with Kids of these numbers.
func (n numbers) of(node *api.Node, kids []int) int {
	s := tell(node, kids)
	number, has := n[s]
	if !has {
		number = len(n)
		n[s] = number
	}
	return number
}

// tell is a text that nodes have in common just if they are the same, their Kids told by their numbers. Nothing in it runs into what follows: a text stands behind its length.
func tell(n *api.Node, kids []int) string {
	var b strings.Builder
	num := func(n int) {
		b.WriteString(strconv.Itoa(n))
		b.WriteByte(' ')
	}
	text := func(s string) {
		num(len(s))
		b.WriteString(s)
	}
	num(n.Kind)
	num(n.Space)
	text(n.Name)
	text(n.Text)
	num(len(n.Attrs))
	for _, a := range n.Attrs {
		text(a.Name)
		text(a.Value)
	}
	for _, kid := range kids {
		num(kid)
	}
	return b.String()
}
