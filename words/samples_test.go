package words

import (
	"fmt"
	"math/rand"
	"slices"
	"strings"

	"recto/api"
	"recto/match"
	"recto/print"
)

func text(s string) api.Node { return api.Node{Kind: api.Text, Text: s} }
func note(s string) api.Node { return api.Node{Kind: api.Comment, Text: s} }

func elem(name string, kids ...api.Node) api.Node {
	return api.Node{Kind: api.Element, Name: name, Kids: kids}
}

func with(n api.Node, name, value string) api.Node {
	n.Attrs = []api.Attr{{Name: name, Value: value}}
	return n
}

// p is a paragraph of a text.
func p(s string) api.Node { return elem("p", text(s)) }

func list(l ...api.Node) []api.Node { return l }

// deep is what l is in that many elements.
func deep(n int, l ...api.Node) []api.Node {
	for range n {
		l = list(elem("b", l...))
	}
	return l
}

func same(s string) Piece { return Piece{Same, s} }
func gone(s string) Piece { return Piece{Gone, s} }
func come(s string) Piece { return Piece{Come, s} }

func pieces(l ...Piece) []Piece { return l }

// tell is pieces in short.
func tell(l []Piece) string {
	var all []string
	for _, x := range l {
		sign, has := map[int]string{Same: "=", Gone: "-", Come: "+"}[x.Kind]
		if !has {
			sign = fmt.Sprint("?", x.Kind)
		}
		all = append(all, sign+x.Text)
	}
	out := fmt.Sprintf("%q", all)
	return out[:min(len(out), 400)]
}

// most is a text of Most words.
func most() string { return strings.Repeat("a ", Most/2) }

// plainSplit are a text's words, as the chapter tells them: a new one begins where a space stands beside what is none.
func plainSplit(s string) []string {
	var all []string
	from := 0
	for i := 1; i <= len(s); i++ {
		if i == len(s) || strings.Contains(" \t\n\f", s[i:i+1]) != strings.Contains(" \t\n\f", s[i-1:i]) {
			all = append(all, s[from:i])
			from = i
		}
	}
	return all
}

// plainLists is what was changed of lists, as the chapter tells it: place by place.
func plainLists(a, b []string) []Piece {
	var all []Piece
	i, j := 0, 0
	for _, x := range append(match.Line(a, b), match.Pair{A: len(a), B: len(b)}) {
		for ; i < x.A; i++ {
			all = append(all, gone(a[i]))
		}
		for ; j < x.B; j++ {
			all = append(all, come(b[j]))
		}
		if x.Whole {
			all = append(all, same(a[i]))
			i, j = i+1, j+1
		}
	}
	return all
}

// plainTexts is what was changed of texts, as the chapter tells it.
func plainTexts(a, b string) []Piece {
	wordsA, wordsB := plainSplit(a), plainSplit(b)
	changed := plainLists(wordsA, wordsB)
	if len(wordsA) > 400 || len(wordsB) > 400 {
		changed = pieces(gone(a), come(b))
	}
	var all []Piece
	for _, x := range changed {
		if last := len(all) - 1; last >= 0 && all[last].Kind == x.Kind {
			all[last].Text += x.Text
		} else if x.Text != "" {
			all = append(all, x)
		}
	}
	return all
}

func plainPages(a, b []api.Node) []string {
	var all []string
	for _, x := range plainLists(print.Lines(a), print.Lines(b)) {
		all = append(all, string([]byte{0, ' ', '-', '+'}[x.Kind])+" "+x.Text)
	}
	return all
}

// allTexts are all texts of at most n of some parts.
func allTexts(n int, parts ...string) []string {
	all := []string{""}
	for from := 0; n > 0; n-- {
		end := len(all)
		for _, s := range all[from:end] {
			for _, part := range parts {
				all = append(all, s+part)
			}
		}
		from = end
	}
	return all
}

// allLists are all lists of at most n of some texts.
func allLists(n int, texts ...string) [][]string {
	all := [][]string{nil}
	for from := 0; n > 0; n-- {
		end := len(all)
		for _, l := range all[from:end] {
			for _, s := range texts {
				all = append(all, append(slices.Clone(l), s))
			}
		}
		from = end
	}
	return all
}

// someWords are words and spaces, by chance.
func someWords(r *rand.Rand, n int) []string {
	var l []string
	for range r.Intn(n + 1) {
		l = append(l, []string{"a", "b", "one", "two", "\xff", "\xc3\xa9", " ", " ", " ", "\n", "\t\f", ""}[r.Intn(12)])
	}
	return l
}

// edited is a list with some changes, by chance.
func edited(r *rand.Rand, l []string) []string {
	l = slices.Clone(l)
	for range r.Intn(6) {
		at := r.Intn(len(l) + 1)
		switch r.Intn(3) {
		case 0:
			l = slices.Insert(l, at, someWords(r, 3)...)
		case 1:
			l = slices.Delete(l, at, min(at+1+r.Intn(2), len(l)))
		case 2:
			if at < len(l) {
				l[at] = []string{"c", " ", ""}[r.Intn(3)]
			}
		}
	}
	return l
}

// some is a list of nodes, by chance, with all that may be wrong.
func some(r *rand.Rand, depth int) []api.Node {
	var l []api.Node
	for range r.Intn(4) {
		s := []string{"", "a", "b\nc", "<p>", " "}[r.Intn(5)]
		n := []api.Node{text(s), note(s), elem("p"), with(elem("i"), "a", s), {Kind: r.Intn(6) - 1, Name: s, Text: s}}[r.Intn(5)]
		if depth > 0 {
			n.Kids = some(r, depth-1)
		}
		l = append(l, n)
	}
	return l
}

// roomyTexts are the same texts in other memory, with junk as spare room.
func roomyTexts(l []string) []string { return append(slices.Clone(l), "junk")[:len(l)] }

// roomy are the same nodes in other memory, in lists that have junk as spare room.
func roomy(l []api.Node) []api.Node {
	var r []api.Node
	for _, n := range l {
		n.Kids = roomy(n.Kids)
		n.Attrs = append(slices.Clone(n.Attrs), api.Attr{Name: "junk"})[:len(n.Attrs)]
		r = append(r, n)
	}
	return append(r, text("junk"))[:len(l)]
}

// whole tells all that nodes have, so that a change shows; spare room too.
func whole(l []api.Node) string {
	var b strings.Builder
	for i, n := range l[:cap(l)] {
		fmt.Fprintf(&b, "(%v %d %d %q %d %q %q", i < len(l), n.Kind, n.Space, n.Name, len(n.Attrs), n.Attrs[:cap(n.Attrs)], n.Text)
		b.WriteString(whole(n.Kids) + ")")
	}
	return b.String()
}
