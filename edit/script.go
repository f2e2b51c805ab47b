package edit

import (
	"slices"

	"recto/api"
	"recto/keys"
	"recto/match"
)

// bond is how a node is matched with one of the other page.
type bond int

const (
	alone bond = iota
	alike
	whole
)

// page is what is known of a page's nodes, by their numbers.
type page struct {
	items []keys.Item
	bonds []bond
}

func newPage(l []api.Node) *page {
	items := keys.Items(l)
	return &page{items, make([]bond, len(items))}
}

// row is what is left of a list of a page's nodes, and the number of the first one that is left.
type row struct {
	page   *page
	list   []api.Node
	number int
}

// nextIs tells whether there is a next node, and it is matched like that.
func (r *row) nextIs(b bond) bool {
	return len(r.list) > 0 && r.page.bonds[r.number] == b
}

// take takes the next node off.
func (r *row) take() api.Node {
	n := r.list[0]
	r.list = r.list[1:]
	r.number += r.page.items[r.number].Size
	return n
}

// kids is the row of the next node's kids.
func (r *row) kids() row {
	return row{r.page, r.list[0].Kids, r.number + 1}
}

// level is two lists, one of each page, that are gone through side by side.
type level struct{ a, b row }

// writer writes the script from one page to another one.
// What is begun is kept in a list, as nodes may lie deeper in one another than calls can; the way has a step for each of these, its place.
type writer struct {
	begun  []level
	way    []int
	script []Edit
}

func newWriter(a, b []api.Node) *writer {
	ours, theirs := newPage(a), newPage(b)
	// The pairs of pages are those of match.Lists, level by level; so each node's key is worked out once, however deep it lies.
	for _, p := range match.Pages(a, b) {
		bond := alike
		if p.Whole {
			bond = whole
		}
		ours.bonds[p.A], theirs.bonds[p.B] = bond, bond
	}
	w := &writer{}
	w.begin(level{row{ours, a, 0}, row{theirs, b, 0}})
	return w
}

func (w *writer) begin(v level) {
	w.begun = append(w.begun, v)
	w.way = append(w.way, 0)
}

// end ends what was begun last, and goes on behind the pair whose kids these are; the first nodes are nobody's.
func (w *writer) end() {
	last := len(w.begun) - 1
	w.begun, w.way = w.begun[:last], w.way[:last]
	if last > 0 {
		w.way[last-1]++
	}
}

// step does what is next in the lists that were begun last. Pairs rise in both: where no next node is alone, both are a pair, or at their end.
func (w *writer) step() {
	top := &w.begun[len(w.begun)-1]
	place := &w.way[len(w.way)-1]
	switch {
	case top.a.nextIs(alone):
		w.add(TakenOut, top.a.take(), api.Node{})
	case top.b.nextIs(alone):
		w.add(PutIn, api.Node{}, top.b.take())
		*place++
	case top.a.nextIs(whole):
		top.a.take()
		top.b.take()
		*place++
	case top.a.nextIs(alike):
		kids := level{top.a.kids(), top.b.kids()}
		w.part(top.a.take(), top.b.take())
		w.begin(kids)
	default:
		w.end()
	}
}

// part adds the edits of two alike nodes themselves.
func (w *writer) part(a, b api.Node) {
	for _, what := range [...]int{Attrs, Text} {
		if was, is := told(what, a), told(what, b); !sameNode(was, is) {
			w.add(what, was, is)
		}
	}
}

// add adds an edit at the way.
func (w *writer) add(what int, was, is api.Node) {
	w.script = append(w.script, Edit{what, slices.Clone(w.way), copied(was), copied(is)})
}
