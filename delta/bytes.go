package delta

import (
	"recto/api"
	"recto/edit"
	"recto/quill"
	"recto/tree"
)

// mostSteps is how many steps a way has at most: a text's one in the deepest element.
const mostSteps = api.MaxDepth + 1

// writer hands the bytes of plain edits to put; err tells that a node has too many of them.
type writer struct {
	put func(piece string)
	err api.Errno
}

// num writes what is never too great: the numbers of plain edits.
func (w *writer) num(n int) {
	b, _ := quill.Num(n)
	w.put(b)
}

func (w *writer) text(s string) {
	b, e := quill.Text(s)
	if e != api.OK {
		w.err = e
		return
	}
	w.put(b)
}

func (w *writer) node(n api.Node) {
	b, e := tree.Bytes([]api.Node{n})
	if e != api.OK {
		w.err = e
		return
	}
	w.text(b)
}

// attrs writes names and values that are never too long, nor too many: those of plain edits.
func (w *writer) attrs(l []api.Attr) {
	var texts []string
	for _, a := range l {
		texts = append(texts, a.Name, a.Value)
	}
	b, _ := quill.List(texts)
	w.put(b)
}

// reader takes edits off bytes. Bytes can tell of far more than scripts may have: it stops where it sees that they do.
type reader struct {
	rest  string
	wrong bool
}

// stop leaves nothing that could be taken.
func (r *reader) stop() {
	r.rest, r.wrong = "", true
}

// num takes a number off that is at most most.
func (r *reader) num(most int) int {
	n, rest, e := quill.TakeNum(r.rest)
	if e != api.OK || n > most {
		r.stop()
		return 0
	}
	r.rest = rest
	return n
}

func (r *reader) text() string {
	s, rest, e := quill.TakeText(r.rest)
	if e != api.OK {
		r.stop()
		return ""
	}
	r.rest = rest
	return s
}

func (r *reader) node() api.Node {
	l, e := tree.Read(r.text())
	if e != api.OK || len(l) != 1 {
		r.stop()
		return api.Node{}
	}
	return l[0]
}

func (r *reader) attrs() []api.Attr {
	texts, rest, e := quill.TakeList(r.rest)
	if e != api.OK || len(texts)%2 != 0 {
		r.stop()
		return nil
	}
	r.rest = rest
	var l []api.Attr
	for ; len(texts) > 0; texts = texts[2:] {
		l = append(l, api.Attr{Name: texts[0], Value: texts[1]})
	}
	return l
}

func (r *reader) script() []edit.Edit {
	table := ofEachWhat()
	var s []edit.Edit
	for range r.num(Most) {
		x := r.edit(table)
		if r.wrong {
			return nil
		}
		s = append(s, x)
	}
	return s
}

func (r *reader) edit(table map[int]parts) edit.Edit {
	x := edit.Edit{What: r.num(edit.Text)}
	for range r.num(mostSteps) {
		x.Way = append(x.Way, r.num(api.MaxNodes))
	}
	its, is := table[x.What]
	if !is {
		r.stop()
		return x
	}
	its.read(r, &x)
	return x
}
