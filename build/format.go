package build

import (
	"recto/active"
	"recto/api"
	"recto/stack"
	"recto/tags"
)

const (
	rounds = 8 // how often at most the end of a format is gone through
	kept   = 3 // how many formatting elements at most are made anew around a block in one round
)

// endFormat is the end of a format.
func (b *builder) endFormat(name string) {
	if top, _ := b.Top(); is(top, name) && b.List.Find(top.ID) < 0 {
		b.Pop()
		return
	}
	for range rounds {
		f, ok := b.Last(name)
		switch {
		case !ok:
			b.endOther(name)
			return
		case b.Stack.Find(f.ID) < 0:
			b.List.Remove(f.ID)
			return
		case !b.inScope(f.ID):
			return
		}
		block, ok := b.blockBehind(f.ID)
		if !ok {
			b.popTo(f.ID)
			b.List.Remove(f.ID)
			return
		}
		if b.split(f, block); b.full {
			return
		}
	}
}

// inScope tells whether an element that is open is in scope.
func (b *builder) inScope(id int) bool {
	open := b.Stack.All()
	for i := range len(open) {
		e := open[len(open)-1-i]
		if e.ID == id {
			return true
		}
		if tags.Ends(e.Space, e.Name) {
			return false
		}
	}
	return false
}

// blockBehind is the first special entry behind an element that is open, and whether there is one.
func (b *builder) blockBehind(id int) (stack.Entry, bool) {
	for _, e := range b.Stack.All()[b.Stack.Find(id)+1:] {
		if tags.Special(e.Space, e.Name) {
			return e, true
		}
	}
	return stack.Entry{}, false
}

// split ends a formatting element ahead of a block in it, and has it begin anew inside the block.
func (b *builder) split(f active.Entry, block stack.Entry) {
	common := b.Stack.All()[b.Stack.Find(f.ID)-1]
	last, bookmark := b.carry(f, block)
	if b.full {
		return
	}
	b.Detach(last)
	b.put(b.placeIn(common), last)
	id, err := b.Element(api.HTML, f.Name, f.Attrs)
	if !b.fits(err) {
		return
	}
	b.Give(block.ID, id)
	b.Append(block.ID, id)
	bookmark = b.forget(f.ID, bookmark)
	b.List.Insert(bookmark, active.Entry{ID: id, Name: f.Name, Attrs: f.Attrs})
	b.Stack.Remove(f.ID)
	b.Stack.Insert(b.Stack.Find(block.ID)+1, stack.Entry{ID: id, Space: api.HTML, Name: f.Name})
}

// carry makes what is open between a formatting element and a block anew, around the block: the outermost of it, or the block, and the bookmark.
func (b *builder) carry(f active.Entry, block stack.Entry) (last, bookmark int) {
	last, bookmark = block.ID, b.List.Find(f.ID)
	at := b.Stack.Find(block.ID)
	for count := 1; ; count++ {
		// Whether the last one was taken out or made anew, the one that was ahead of it stands here.
		at--
		n := b.Stack.All()[at]
		if n.ID == f.ID {
			return last, bookmark
		}
		if count > kept {
			bookmark = b.forget(n.ID, bookmark)
		}
		listed := b.List.Find(n.ID)
		if listed < 0 {
			b.Stack.Remove(n.ID)
			continue
		}
		id := b.renew(n.ID, at, listed)
		if b.full {
			return last, bookmark
		}
		if last == block.ID {
			bookmark = listed + 1
		}
		b.Detach(last)
		b.Append(id, last)
		last = id
	}
}

// renew makes a new element like a formatting one, which takes its place in the list and on the stack; its number.
func (b *builder) renew(old, at, listed int) int {
	e := b.List.All()[listed]
	id, err := b.Element(api.HTML, e.Name, e.Attrs)
	if !b.fits(err) {
		return root
	}
	b.Swap(old, active.Entry{ID: id, Name: e.Name, Attrs: e.Attrs})
	b.Stack.Remove(old)
	b.Stack.Insert(at, stack.Entry{ID: id, Space: api.HTML, Name: e.Name})
	return id
}

// forget takes an element out of the list, if it is there; the bookmark, which is one less, if it was behind it.
func (b *builder) forget(id, bookmark int) int {
	listed := b.List.Find(id)
	if b.List.Remove(id) && bookmark > listed {
		bookmark--
	}
	return bookmark
}
