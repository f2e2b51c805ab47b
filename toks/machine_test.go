package toks

import (
	"strings"

	"recto/api"
)

// The states of the standard's reader, as far as the chapter has them (WHATWG 13.2.5): another way to the same tokens, byte by byte, without references.
const (
	inData = iota
	tagOpen
	endTagOpen
	tagName
	beforeAttrName
	attrName
	afterAttrName
	beforeValue
	valueDouble
	valueSingle
	valueBare
	afterValue
	selfClosing
	oddComment
	declaration
	commentStart
	commentStartDash
	inComment
	commentEndDash
	commentEnd
	commentEndBang
	inDoctype
	inCdata
	cdataBracket
	cdataBrackets
)

const atEnd = -1

type machine struct {
	s     string
	at    int
	state int
	cdata bool
	tag   Token
	attr  *api.Attr
	text  strings.Builder // of a comment
	out   []Token         // with all Chars side by side made one
}

func run(s string, cdata bool) []Token {
	m := &machine{s: s, cdata: cdata}
	for m.at <= len(s) {
		c := atEnd
		if m.at < len(s) {
			c = int(s[m.at])
		}
		m.at++
		m.step(c)
	}
	return m.out
}

func (m *machine) char(s string) {
	if n := len(m.out); n > 0 && m.out[n-1].Kind == Chars {
		m.out[n-1].Text += s
		return
	}
	m.out = append(m.out, Token{Kind: Chars, Text: s})
}

func (m *machine) note() {
	m.out = append(m.out, Token{Kind: Note, Text: m.text.String()})
	m.state = inData
}

func (m *machine) again(state int) {
	m.state = state
	m.at--
}

func (m *machine) endAttr() {
	if m.attr == nil {
		return
	}
	for _, a := range m.tag.Attrs {
		if a.Name == m.attr.Name {
			m.attr = nil
			return
		}
	}
	m.tag.Attrs = append(m.tag.Attrs, *m.attr)
	m.attr = nil
}

func (m *machine) endTag() {
	m.endAttr()
	if m.tag.Kind == End {
		m.tag = Token{Kind: End, Name: m.tag.Name}
	}
	m.out = append(m.out, m.tag)
	m.state = inData
}

func isSpace(c int) bool  { return c == 9 || c == 10 || c == 12 || c == 32 }
func isLetter(c int) bool { return c >= 'A' && c <= 'Z' || c >= 'a' && c <= 'z' }
func small(c int) string  { return strings.ToLower(string(rune(c))) }

func (m *machine) step(c int) {
	switch {
	case m.state <= endTagOpen:
		m.stepData(c)
	case m.state <= selfClosing:
		m.stepTag(c)
	default:
		m.stepOther(c)
	}
}

func (m *machine) stepData(c int) {
	switch m.state {
	case inData:
		switch {
		case c == '<':
			m.state = tagOpen
		case c != atEnd:
			m.char(string(rune(c)))
		}
	case tagOpen:
		m.text.Reset()
		switch {
		case c == '!':
			m.state = declaration
		case c == '/':
			m.state = endTagOpen
		case isLetter(c):
			m.tag = Token{Kind: Start}
			m.again(tagName)
		case c == '?':
			m.again(oddComment)
		default:
			m.char("<")
			m.again(inData)
		}
	case endTagOpen:
		switch {
		case isLetter(c):
			m.tag = Token{Kind: End}
			m.again(tagName)
		case c == '>':
			m.state = inData
		case c == atEnd:
			m.char("</")
			m.again(inData)
		default:
			m.again(oddComment)
		}
	}
}

func (m *machine) stepTag(c int) {
	if c == atEnd {
		return
	}
	switch m.state {
	case tagName:
		switch {
		case isSpace(c):
			m.state = beforeAttrName
		case c == '/':
			m.state = selfClosing
		case c == '>':
			m.endTag()
		default:
			m.tag.Name += small(c)
		}
	case beforeAttrName:
		switch {
		case isSpace(c):
		case c == '/' || c == '>':
			m.again(afterAttrName)
		case c == '=':
			m.attr = &api.Attr{Name: "="}
			m.state = attrName
		default:
			m.attr = &api.Attr{}
			m.again(attrName)
		}
	case attrName:
		switch {
		case isSpace(c) || c == '/' || c == '>':
			m.again(afterAttrName)
		case c == '=':
			m.state = beforeValue
		default:
			m.attr.Name += small(c)
		}
	case afterAttrName:
		switch {
		case isSpace(c):
		case c == '/':
			m.endAttr()
			m.state = selfClosing
		case c == '=':
			m.state = beforeValue
		case c == '>':
			m.endTag()
		default:
			m.endAttr()
			m.attr = &api.Attr{}
			m.again(attrName)
		}
	case selfClosing:
		if c == '>' {
			m.tag.Self = true
			m.endTag()
			return
		}
		m.again(beforeAttrName)
	default:
		m.stepValue(c)
	}
}

func (m *machine) stepValue(c int) {
	switch m.state {
	case beforeValue:
		switch {
		case isSpace(c):
		case c == '"':
			m.state = valueDouble
		case c == '\'':
			m.state = valueSingle
		case c == '>':
			m.endTag()
		default:
			m.again(valueBare)
		}
	case valueDouble, valueSingle:
		if c == '"' && m.state == valueDouble || c == '\'' && m.state == valueSingle {
			m.endAttr()
			m.state = afterValue
			return
		}
		m.attr.Value += string(rune(c))
	case valueBare:
		switch {
		case isSpace(c):
			m.endAttr()
			m.state = beforeAttrName
		case c == '>':
			m.endTag()
		default:
			m.attr.Value += string(rune(c))
		}
	case afterValue:
		switch {
		case c == '/':
			m.state = selfClosing
		case c == '>':
			m.endTag()
		default:
			m.again(beforeAttrName)
		}
	}
}

func (m *machine) stepOther(c int) {
	switch m.state {
	case oddComment:
		if c == '>' || c == atEnd {
			m.note()
			return
		}
		m.text.WriteByte(byte(c))
	case declaration:
		m.at--
		rest := m.s[min(m.at, len(m.s)):]
		switch {
		case strings.HasPrefix(rest, "--"):
			m.at += 2
			m.state = commentStart
		case len(rest) >= 7 && strings.EqualFold(rest[:7], "doctype"):
			m.at += 7
			m.state = inDoctype
		case strings.HasPrefix(rest, "[CDATA[") && m.cdata:
			m.at += 7
			m.state = inCdata
		default:
			m.state = oddComment
		}
	case inDoctype:
		if c == '>' || c == atEnd {
			m.out = append(m.out, Token{Kind: Doctype})
			m.state = inData
		}
	case inCdata, cdataBracket, cdataBrackets:
		m.stepCdata(c)
	default:
		m.stepComment(c)
	}
}

func (m *machine) stepCdata(c int) {
	switch m.state {
	case inCdata:
		switch {
		case c == ']':
			m.state = cdataBracket
		case c != atEnd:
			m.char(string(rune(c)))
		}
	case cdataBracket:
		if c == ']' {
			m.state = cdataBrackets
			return
		}
		m.char("]")
		m.again(inCdata)
	case cdataBrackets:
		switch c {
		case ']':
			m.char("]")
		case '>':
			m.state = inData
		default:
			m.char("]]")
			m.again(inCdata)
		}
	}
}

func (m *machine) stepComment(c int) {
	switch m.state {
	case commentStart:
		switch c {
		case '-':
			m.state = commentStartDash
		case '>':
			m.note()
		default:
			m.again(inComment)
		}
	case commentStartDash:
		switch c {
		case '-':
			m.state = commentEnd
		case '>', atEnd:
			m.note()
		default:
			m.text.WriteString("-")
			m.again(inComment)
		}
	case inComment:
		switch c {
		case '-':
			m.state = commentEndDash
		case atEnd:
			m.note()
		default:
			m.text.WriteByte(byte(c))
		}
	case commentEndDash:
		switch c {
		case '-':
			m.state = commentEnd
		case atEnd:
			m.note()
		default:
			m.text.WriteString("-")
			m.again(inComment)
		}
	case commentEnd:
		switch c {
		case '>', atEnd:
			m.note()
		case '!':
			m.state = commentEndBang
		case '-':
			m.text.WriteString("-")
		default:
			m.text.WriteString("--")
			m.again(inComment)
		}
	case commentEndBang:
		switch c {
		case '-':
			m.text.WriteString("--!")
			m.state = commentEndDash
		case '>', atEnd:
			m.note()
		default:
			m.text.WriteString("--!")
			m.again(inComment)
		}
	}
}
