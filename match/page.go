package match

import (
	"strconv"

	"recto/api"
	"recto/keys"
)

// none is the number of no node: its kids are the first nodes.
const none = -1

// page is what is known of a page's nodes, by their numbers: items, and the numbers of keys and labels.
type page struct {
	items        []keys.Item
	keys, labels []int
}

func newPage(l []api.Node, n numbers) *page {
	items := keys.Items(l)
	p := &page{items, make([]int, len(items)), make([]int, len(items))}
	nodes := inOrder(l, items)
	// From the last one on, so that kids are known ahead of their parent.
	for i := len(items) - 1; i >= 0; i-- {
		p.keys[i] = n.of(p.shortKey(i, *nodes[i], n))
		p.labels[i] = n.of(keys.Label(*nodes[i]))
	}
	return p
}

// inOrder are a page's nodes, by their numbers.
func inOrder(l []api.Node, items []keys.Item) []*api.Node {
	nodes := make([]*api.Node, len(items))
	for i, it := range items {
		list := l
		if it.Parent != none {
			list = nodes[it.Parent].Kids
		}
		nodes[i] = &list[it.Place]
	}
	return nodes
}

// shortKey is a text that nodes have in common just if their keys are the same: the number of the node's key, were it without kids, and those of its kids' short keys.
// The keys themselves tell of all that is below, each time anew: of nodes deep in one another they would be too long in all.
func (p *page) shortKey(number int, node api.Node, n numbers) string {
	node.Kids = nil
	short := strconv.AppendInt(nil, int64(n.of(keys.Key(node))), 10)
	for _, kid := range p.kids(number) {
		short = append(short, ' ')
		short = strconv.AppendInt(short, int64(p.keys[kid]), 10)
	}
	return string(short)
}

// kids are the numbers of a node's kids.
func (p *page) kids(number int) []int {
	end := len(p.items)
	if number != none {
		end = number + p.items[number].Size
	}
	var all []int
	for at := number + 1; at < end; at += p.items[at].Size {
		all = append(all, at)
	}
	return all
}

// row is what is known of the nodes of some numbers.
func (p *page) row(some []int) row {
	var r row
	for _, number := range some {
		r.keys = append(r.keys, p.keys[number])
		r.labels = append(r.labels, p.labels[number])
	}
	return r
}
