package build

import (
	"recto/api"
	"recto/stack"
	"recto/tags"
	"recto/toks"
)

// foreign does with a token what is to be done in SVG and Math.
func (b *builder) foreign(t toks.Token, top stack.Entry) {
	switch t.Kind {
	case toks.Chars:
		b.write(t.Text)
	case toks.Note:
		b.note(t.Text)
	case toks.Start:
		if tags.Breaks(t.Name) {
			b.breakOut(t)
			return
		}
		b.insert(top.Space, t.Name, t.Attrs)
		if t.Self {
			b.Pop()
		}
	case toks.End:
		if t.Name == "br" || t.Name == "p" {
			b.breakOut(t)
			return
		}
		b.endForeign(t)
	}
}

// breakOut takes entries off until HTML goes on, and does with the token as the mode has it.
func (b *builder) breakOut(t toks.Token) {
	for {
		top, _ := b.Top()
		if top.Space == api.HTML || tags.Again(top.Space, top.Name) != 0 {
			break
		}
		b.Pop()
	}
	b.byMode(t)
}

// endForeign does with an End that does not break out.
func (b *builder) endForeign(t toks.Token) {
	open := b.Stack.All()
	for i := range len(open) {
		e := open[len(open)-1-i]
		if e.Space == api.HTML {
			b.byMode(t)
			return
		}
		if e.Name == t.Name {
			b.popTo(e.ID)
			return
		}
	}
}
