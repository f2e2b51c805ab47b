package build

import (
	"recto/api"
	"recto/chars"
	"recto/stack"
	"recto/toks"
)

// tag is a Start's name, or an End's with a / ahead of it, which no name begins with; of other tokens it is empty.
func tag(t toks.Token) string {
	if t.Kind == toks.End {
		return "/" + t.Name
	}
	return t.Name
}

// foster does with a token as Body has it, with fostering.
func (b *builder) foster(t toks.Token) {
	b.fostering = true
	b.body(t)
	b.fostering = false
}

// table does with a token as Table has it.
func (b *builder) table(t toks.Token) {
	switch tag(t) {
	case "caption":
		b.Back("table", "html")
		b.fits(b.Mark())
		b.open(t)
		b.mode = inCaption
	case "tbody", "thead":
		b.Back("table", "html")
		b.open(t)
		b.mode = inGroup
	case "td", "th", "tr":
		b.Back("table", "html")
		b.insert(api.HTML, "tbody", nil)
		b.mode = inGroup
		b.handle(t)
	case "table":
		if b.endTable() {
			b.handle(t)
		}
	case "/table":
		b.endTable()
	case "script", "style":
		b.body(t)
	case "/html", "/body", "/caption", "/tbody", "/thead", "/tr", "/td", "/th":
	default:
		b.amidTable(t)
	}
}

// amidTable does with a token that is no part of a table as Table has it.
func (b *builder) amidTable(t toks.Token) {
	top, _ := b.Top()
	switch {
	case t.Kind == toks.Note:
		b.body(t)
	case t.Kind == toks.Chars && frame(top) && chars.Blank(t.Text):
		b.write(t.Text)
	default:
		b.foster(t)
	}
}

// endTable ends a table; whether there is one.
func (b *builder) endTable() bool {
	if !b.In(stack.Table, "table") {
		return false
	}
	b.To("table")
	b.mode = b.found()
	return true
}

// found is the mode by what is open.
func (b *builder) found() int {
	open := b.Stack.All()
	for i := range len(open) {
		e := open[len(open)-1-i]
		switch {
		case is(e, "td", "th"):
			return inCell
		case is(e, "tr"):
			return inRow
		case is(e, "tbody", "thead"):
			return inGroup
		case is(e, "caption"):
			return inCaption
		case is(e, "table"):
			return inTable
		}
	}
	return inBody
}

// caption does with a token as Caption has it.
func (b *builder) caption(t toks.Token) {
	switch tag(t) {
	case "/caption":
		b.endCaption()
	case "caption", "tbody", "thead", "tr", "td", "th", "/table":
		if b.endCaption() {
			b.handle(t)
		}
	case "/html", "/body", "/tbody", "/thead", "/tr", "/td", "/th":
	default:
		b.body(t)
	}
}

// endCaption ends a caption; whether there is one.
func (b *builder) endCaption() bool {
	if !b.shut(stack.Table, "", "caption") {
		return false
	}
	b.Clear()
	b.mode = inTable
	return true
}

// group does with a token as Group has it.
func (b *builder) group(t toks.Token) {
	switch tag(t) {
	case "tr":
		b.Back("tbody", "thead", "html")
		b.open(t)
		b.mode = inRow
	case "td", "th":
		b.Back("tbody", "thead", "html")
		b.insert(api.HTML, "tr", nil)
		b.mode = inRow
		b.handle(t)
	case "/tbody", "/thead":
		b.endGroup(t.Name)
	case "caption", "tbody", "thead", "/table":
		if b.endGroup("tbody", "thead") {
			b.handle(t)
		}
	case "/html", "/body", "/caption", "/tr", "/td", "/th":
	default:
		b.table(t)
	}
}

// endGroup ends the rows' group, if one of some names is open; whether one is.
func (b *builder) endGroup(names ...string) bool {
	if !b.In(stack.Table, names...) {
		return false
	}
	b.Back("tbody", "thead", "html")
	b.Pop()
	b.mode = inTable
	return true
}

// row does with a token as Row has it.
func (b *builder) row(t toks.Token) {
	switch tag(t) {
	case "td", "th":
		b.Back("tr", "html")
		b.open(t)
		b.mode = inCell
		b.fits(b.Mark())
	case "/tr":
		b.endRow()
	case "caption", "tbody", "thead", "tr", "/table":
		if b.endRow() {
			b.handle(t)
		}
	case "/tbody", "/thead":
		if b.In(stack.Table, t.Name) && b.endRow() {
			b.handle(t)
		}
	case "/html", "/body", "/caption", "/td", "/th":
	default:
		b.table(t)
	}
}

// endRow ends a row; whether there is one.
func (b *builder) endRow() bool {
	if !b.In(stack.Table, "tr") {
		return false
	}
	b.Back("tr", "html")
	b.Pop()
	b.mode = inGroup
	return true
}

// cell does with a token as Cell has it.
func (b *builder) cell(t toks.Token) {
	switch tag(t) {
	case "/td", "/th":
		b.endCell(t.Name)
	case "caption", "tbody", "thead", "tr", "td", "th":
		if b.endCell("td", "th") {
			b.handle(t)
		}
	case "/table", "/tbody", "/thead", "/tr":
		if b.In(stack.Table, t.Name) && b.endCell("td", "th") {
			b.handle(t)
		}
	case "/html", "/body", "/caption":
	default:
		b.body(t)
	}
}

// endCell ends a cell of one of some names; whether there is one.
func (b *builder) endCell(names ...string) bool {
	if !b.shut(stack.Table, "", names...) {
		return false
	}
	b.Clear()
	b.mode = inRow
	return true
}
