package merge

import (
	"strings"

	"recto/api"
)

// later is a node of a list, by its place, whose Kids are yet to be made of something.
type later[T any] struct {
	place int
	of    T
}

// work is a list that is made of something, and where it goes.
type work[T any] struct {
	of   T
	into *[]api.Node
}

// grow makes a list with all that is below it. What makes one list tells besides of which of its nodes the Kids are yet to be made, and of what; texts side by side are one in each list that it made.
// What is begun is kept in a list, as nodes may lie deeper in one another than calls can.
func grow[T any](of T, list func(of T) ([]api.Node, []later[T])) []api.Node {
	var all []api.Node
	begun := []work[T]{{of, &all}}
	for i := 0; i < len(begun); i++ {
		made, kids := list(begun[i].of)
		*begun[i].into = made
		for _, k := range kids {
			begun = append(begun, work[T]{k.of, &made[k.place].Kids})
		}
	}
	// From the last one on, so that Kids are joined ahead of the list that they lie below: that may move them.
	for i := len(begun) - 1; i >= 0; i-- {
		*begun[i].into = join(*begun[i].into)
	}
	return all
}

// join makes texts side by side one. Texts that are not right may have Kids: these are all kept, one behind the other, and joined as well.
func join(l []api.Node) []api.Node {
	left := []*[]api.Node{&l}
	for len(left) > 0 {
		last := len(left) - 1
		here := left[last]
		left = left[:last]
		if apart(*here) {
			continue
		}
		var all []api.Node
		var grown []int
		for rest := *here; len(rest) > 0; {
			n := run(rest)
			if n > 1 {
				grown = append(grown, len(all))
			}
			all = append(all, one(rest[:n]))
			rest = rest[n:]
		}
		*here = all
		for _, place := range grown {
			left = append(left, &all[place].Kids)
		}
	}
	return l
}

// run is how many nodes that a list begins with are to be one: texts, or one node that is none.
func run(l []api.Node) int {
	n := 1
	for l[0].Kind == api.Text && n < len(l) && l[n].Kind == api.Text {
		n++
	}
	return n
}

// apart tells whether no two texts stand side by side.
func apart(l []api.Node) bool {
	for i := 1; i < len(l); i++ {
		if l[i-1].Kind == api.Text && l[i].Kind == api.Text {
			return false
		}
	}
	return true
}

// one is the one node that some become: the first one, with all Texts and all Kids.
func one(l []api.Node) api.Node {
	n := l[0]
	if len(l) == 1 {
		return n
	}
	var words strings.Builder
	var kids []api.Node
	for _, x := range l {
		words.WriteString(x.Text)
		kids = append(kids, x.Kids...)
	}
	n.Text, n.Kids = words.String(), kids
	return n
}
