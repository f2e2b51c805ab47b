package build

import (
	"slices"

	"recto/active"
	"recto/api"
	"recto/stack"
	"recto/toks"
)

// place is where a node may stand: at the end of an element, or just ahead of a kid.
type place struct {
	id    int
	ahead bool
}

// is tells whether an entry is of HTML, and of one of some names.
func is(e stack.Entry, names ...string) bool {
	return e.Space == api.HTML && slices.Contains(names, e.Name)
}

// frame tells whether an entry is a part of a table that takes neither words nor elements but parts.
func frame(e stack.Entry) bool { return is(e, "table", "tbody", "thead", "tr") }

// placeIn is the place for a node in an element that is open.
func (b *builder) placeIn(e stack.Entry) place {
	if !b.fostering || !frame(e) {
		return place{id: e.ID}
	}
	open := b.Stack.All()
	for i := range len(open) {
		at := len(open) - 1 - i
		if !is(open[at], "table") {
			continue
		}
		if _, ok := b.Parent(open[at].ID); ok {
			return place{id: open[at].ID, ahead: true}
		}
		// The root is ahead of each table.
		return place{id: open[at-1].ID}
	}
	return place{id: root}
}

// here is the place for a node in the top.
func (b *builder) here() place {
	top, _ := b.Top()
	return b.placeIn(top)
}

// put puts a loose node at a place; where that cannot be, it stays loose.
func (b *builder) put(p place, id int) {
	if p.ahead {
		b.Before(p.id, id)
		return
	}
	b.Append(p.id, id)
}

// write puts words in.
func (b *builder) write(s string) {
	p := b.here()
	if p.ahead {
		b.fits(b.WordsBefore(p.id, s))
		return
	}
	b.fits(b.Words(p.id, s))
}

// note puts a comment in.
func (b *builder) note(text string) {
	id, err := b.Comment(text)
	if b.fits(err) {
		b.put(b.here(), id)
	}
}

// insert puts a new element in, and on the stack; its number.
func (b *builder) insert(space int, name string, attrs []api.Attr) int {
	id, err := b.Element(space, name, attrs)
	if !b.fits(err) {
		return root
	}
	b.put(b.here(), id)
	b.fits(b.Push(stack.Entry{ID: id, Space: space, Name: name}))
	return id
}

// open inserts a token's element, of HTML; its number.
func (b *builder) open(t toks.Token) int { return b.insert(api.HTML, t.Name, t.Attrs) }

// beginAnew inserts the formatting elements anew that were cut off.
func (b *builder) beginAnew() {
	var open []int
	for _, e := range b.Stack.All() {
		open = append(open, e.ID)
	}
	cut := b.Cut(open)
	if len(cut) == 0 {
		return
	}
	list := b.List.All()
	for _, at := range cut {
		e := list[at]
		id := b.insert(api.HTML, e.Name, e.Attrs)
		b.Swap(e.ID, active.Entry{ID: id, Name: e.Name, Attrs: e.Attrs})
	}
}

// shut takes entries off, up to and with one of some names, if these are in a scope; whether they are.
func (b *builder) shut(scope int, but string, names ...string) bool {
	if !b.In(scope, names...) {
		return false
	}
	b.Implied(but)
	b.To(names...)
	return true
}

// shutPara closes a p.
func (b *builder) shutPara() { b.shut(stack.General, "p", "p") }

// popTo takes entries off, up to and with one that is open.
func (b *builder) popTo(id int) {
	for b.Stack.Find(id) >= 0 {
		b.Pop()
	}
}

// fits tells whether a part had room, and keeps in mind if one had not.
func (b *builder) fits(err api.Errno) bool {
	if err != api.OK {
		b.full = true
	}
	return err == api.OK
}
