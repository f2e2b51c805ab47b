package match

import "recto/api"

// numbers give each text a number, the same one just to the same text: numbers are quickly held against each other, keys may be long.
type numbers map[string]int

func (n numbers) of(s string) int {
	number, has := n[s]
	if !has {
		number = len(n)
		n[s] = number
	}
	return number
}

func (n numbers) ofTexts(l []string) []int {
	var all []int
	for _, s := range l {
		all = append(all, n.of(s))
	}
	return all
}

// ofNodes are the numbers of what tell says of nodes.
func (n numbers) ofNodes(l []api.Node, tell func(n api.Node) string) []int {
	var all []int
	for _, node := range l {
		all = append(all, n.of(tell(node)))
	}
	return all
}

// line lines up two lists, whose texts are told by numbers.
func line(a, b []int) []Pair {
	var all []Pair
	// What both lists begin with leaves no choice: of lists that are nearly the same, few choices are worked out.
	same := 0
	for same < len(a) && same < len(b) && a[same] == b[same] {
		all = append(all, Pair{A: same, B: same, Whole: true})
		same++
	}
	c := choose(a[same:], b[same:])
	for i, j := same, same; i < len(a) && j < len(b); {
		switch {
		case a[i] == b[j]:
			all = append(all, Pair{A: i, B: j, Whole: true})
			i, j = i+1, j+1
		case c.onInA(i-same, j-same):
			i++
		default:
			j++
		}
	}
	return all
}

// choices tell of each two places of two lists whether it goes on in the first one, if these are no pair. A choice is a bit, as there may be very many.
type choices struct {
	width int
	bits  []uint64
}

// choose works the choices of two lists out.
func choose(a, b []int) choices {
	c := choices{len(b), make([]uint64, (len(a)*len(b)+63)/64)}
	// How many pairs can be had from a place of a on, and from the next one on, by the place of b.
	here, next := make([]int, len(b)+1), make([]int, len(b)+1)
	for i := len(a) - 1; i >= 0; i-- {
		for j := len(b) - 1; j >= 0; j-- {
			switch {
			case a[i] == b[j]:
				here[j] = next[j+1] + 1
			case next[j] >= here[j+1]:
				here[j] = next[j]
				c.setOnInA(i, j)
			default:
				here[j] = here[j+1]
			}
		}
		here, next = next, here
	}
	return c
}

func (c *choices) onInA(i, j int) bool {
	at := i*c.width + j
	return c.bits[at/64]>>(at%64)&1 == 1
}

func (c *choices) setOnInA(i, j int) {
	at := i*c.width + j
	c.bits[at/64] |= 1 << (at % 64)
}
