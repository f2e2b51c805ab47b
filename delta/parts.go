package delta

import (
	"recto/api"
	"recto/edit"
	"recto/tree"
)

// parts are what an edit tells behind its way: whether that is plain, how it is written, and how it is read.
type parts struct {
	arePlain func(x edit.Edit) bool
	write    func(w *writer, x edit.Edit)
	read     func(r *reader, x *edit.Edit)
}

// ofEachWhat are the parts of edits, by what these do.
func ofEachWhat() map[int]parts {
	return map[int]parts{
		edit.PutIn: {
			arePlain: func(x edit.Edit) bool { return isNothing(x.Old) && isRight(x.New) },
			write:    func(w *writer, x edit.Edit) { w.node(x.New) },
			read:     func(r *reader, x *edit.Edit) { x.New = r.node() },
		},
		edit.TakenOut: {
			arePlain: func(x edit.Edit) bool { return isRight(x.Old) && isNothing(x.New) },
			write:    func(w *writer, x edit.Edit) { w.node(x.Old) },
			read:     func(r *reader, x *edit.Edit) { x.Old = r.node() },
		},
		edit.Attrs: {
			arePlain: func(x edit.Edit) bool { return hasAttrsAlone(x.Old) && hasAttrsAlone(x.New) },
			write: func(w *writer, x edit.Edit) {
				w.attrs(x.Old.Attrs)
				w.attrs(x.New.Attrs)
			},
			read: func(r *reader, x *edit.Edit) {
				x.Old.Attrs = r.attrs()
				x.New.Attrs = r.attrs()
			},
		},
		edit.Text: {
			arePlain: func(x edit.Edit) bool { return hasTextAlone(x.Old) && hasTextAlone(x.New) },
			write: func(w *writer, x edit.Edit) {
				w.text(x.Old.Text)
				w.text(x.New.Text)
			},
			read: func(r *reader, x *edit.Edit) {
				x.Old.Text = r.text()
				x.New.Text = r.text()
			},
		},
	}
}

func isPlainWay(way []int) bool {
	if len(way) == 0 || len(way) > mostSteps {
		return false
	}
	for _, step := range way {
		if step < 0 || step > api.MaxNodes {
			return false
		}
	}
	return true
}

// isNothing tells whether a node is the zero one.
func isNothing(n api.Node) bool { return isJust(n, api.Node{}) }

// isRight tells whether a node alone is right.
func isRight(n api.Node) bool { return tree.Check([]api.Node{n}) == api.OK }

func hasAttrsAlone(n api.Node) bool {
	if len(n.Attrs) > api.MaxAttrs || !isJust(n, api.Node{Attrs: n.Attrs}) {
		return false
	}
	for _, a := range n.Attrs {
		if len(a.Name) > api.MaxBytes || len(a.Value) > api.MaxBytes {
			return false
		}
	}
	return true
}

func hasTextAlone(n api.Node) bool {
	return len(n.Text) <= api.MaxBytes && isJust(n, api.Node{Text: n.Text})
}

// isJust tells whether a node is a part of itself, so that it has nothing else.
func isJust(n, part api.Node) bool {
	return tree.Same([]api.Node{n}, []api.Node{part})
}
