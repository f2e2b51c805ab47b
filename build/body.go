package build

import (
	"recto/active"
	"recto/api"
	"recto/stack"
	"recto/tags"
	"recto/toks"
)

// body does with a token as Body has it.
func (b *builder) body(t toks.Token) {
	switch t.Kind {
	case toks.Chars:
		b.beginAnew()
		b.write(t.Text)
	case toks.Note:
		b.note(t.Text)
	case toks.Start:
		b.start(t)
	case toks.End:
		b.end(t)
	}
}

// start does with a Start as Body has it.
func (b *builder) start(t toks.Token) {
	if t.Name == "image" {
		t.Name = "img"
	}
	group := tags.Group(t.Name)
	switch group {
	case tags.Shell, tags.Part:
	case tags.Link:
		b.endLink()
		fallthrough
	case tags.Format:
		b.beginAnew()
		id := b.open(t)
		b.fits(b.Add(active.Entry{ID: id, Name: t.Name, Attrs: t.Attrs}))
	case tags.Lone:
		b.beginAnew()
		b.open(t)
		b.Pop()
	case tags.Foreign:
		b.startForeign(t)
	case tags.Title, tags.Area, tags.Raw, tags.Listing:
		b.startRaw(t, group)
	case tags.Other:
		b.beginAnew()
		b.open(t)
	default:
		b.startBlock(t, group)
	}
}

// startBlock does with a Start of a group that closes a p ahead of it.
func (b *builder) startBlock(t toks.Token, group int) {
	if group == tags.Item {
		b.endItem()
	}
	b.shutPara()
	if group == tags.Heading {
		if top, _ := b.Top(); is(top, "h1", "h2", "h3") {
			b.Pop()
		}
	}
	b.open(t)
	switch group {
	case tags.Line:
		b.Pop()
	case tags.Pre:
		b.drop = true
	case tags.Table:
		b.mode = inTable
	}
}

// startRaw does with a Start of a group behind which the raw mode begins.
func (b *builder) startRaw(t toks.Token, group int) {
	if group == tags.Listing {
		b.shutPara()
		b.beginAnew()
	}
	b.open(t)
	b.raw = toks.Mode{Kind: toks.Raw, Last: t.Name}
	switch group {
	case tags.Area:
		b.drop = true
		fallthrough
	case tags.Title:
		b.raw.Kind = toks.Title
	}
}

// startForeign does with a Start of svg or math.
func (b *builder) startForeign(t toks.Token) {
	space := api.SVG
	if t.Name == "math" {
		space = api.Math
	}
	b.beginAnew()
	b.insert(space, t.Name, t.Attrs)
	if t.Self {
		b.Pop()
	}
}

// endItem ends a li that is open where another one begins.
func (b *builder) endItem() {
	open := b.Stack.All()
	for i := range len(open) {
		e := open[len(open)-1-i]
		if is(e, "li") {
			b.Implied("li")
			b.To("li")
			return
		}
		if tags.Special(e.Space, e.Name) && !is(e, "div", "p") {
			return
		}
	}
}

// endLink ends an a where another one begins.
func (b *builder) endLink() {
	a, ok := b.Last("a")
	if !ok {
		return
	}
	b.endFormat("a")
	b.List.Remove(a.ID)
	b.Stack.Remove(a.ID)
}

// end does with an End as Body has it.
func (b *builder) end(t toks.Token) {
	if t.Name == "br" {
		b.start(toks.Token{Kind: toks.Start, Name: "br"})
		return
	}
	switch tags.Group(t.Name) {
	case tags.Shell:
	case tags.Block, tags.Pre:
		b.shut(stack.General, "", t.Name)
	case tags.Para:
		if !b.In(stack.General, "p") {
			b.insert(api.HTML, "p", nil)
		}
		b.shutPara()
	case tags.Item:
		b.shut(stack.List, "li", "li")
	case tags.Heading:
		b.shut(stack.General, "", "h1", "h2", "h3")
	case tags.Link, tags.Format:
		b.endFormat(t.Name)
	default:
		b.endOther(t.Name)
	}
}

// endOther is any other end.
func (b *builder) endOther(name string) {
	open := b.Stack.All()
	for i := range len(open) {
		e := open[len(open)-1-i]
		if is(e, name) {
			b.Implied(name)
			b.popTo(e.ID)
			return
		}
		if tags.Special(e.Space, e.Name) {
			return
		}
	}
}
