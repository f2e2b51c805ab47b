package tags

import (
	"math"
	"slices"
	"strings"
	"testing"

	"recto/api"
)

// groups are the chapter's: each group's number, and its names.
var groups = []struct {
	group, number int
	names         string
}{
	{Other, 0, ""},
	{Shell, 1, "html head body frame frameset"},
	{Part, 2, "caption tbody thead tr td th"},
	{Table, 3, "table"},
	{Block, 4, "blockquote div ol section ul"},
	{Para, 5, "p"},
	{Heading, 6, "h1 h2 h3"},
	{Pre, 7, "pre"},
	{Item, 8, "li"},
	{Link, 9, "a"},
	{Format, 10, "b code em i strong u"},
	{Lone, 11, "br img input wbr"},
	{Line, 12, "hr"},
	{Title, 13, "title"},
	{Area, 14, "textarea"},
	{Raw, 15, "script style"},
	{Listing, 16, "xmp"},
	{Foreign, 17, "math svg"},
}

// The chapter's other lists.
const (
	voids       = "br hr img input wbr"
	specialHTML = "blockquote body br caption div frame frameset h1 h2 h3 head hr html img input li ol p pre script section style table tbody td textarea th thead title tr ul wbr xmp"
	specialSVG  = "desc foreignobject title"
	specialMath = "mi mn mo ms mtext"
	endsHTML    = "caption html table td th"
	breaks      = "b big blockquote body br center code dd div dl dt em embed h1 h2 h3 h4 h5 h6 head hr i img li listing menu meta nobr ol p pre ruby s small span strike strong sub sup table tt u ul var"
)

// strangers are names of elements that the chapter names nowhere, and texts that are no names.
const strangers = "image tfoot colgroup col form select option button font nobr2 h0 h7 h10 h address article plaintext noscript iframe template annotation-xml mglyph malignmark foreign foreignobjects desc2 x m 1 - :"

func listed(list, name string) bool { return slices.Contains(strings.Fields(list), name) }

// some are names of all lists, and what is near to them but another name.
func some() []string {
	all := []string{"", " ", "\x00", "p\x00", "\xff"}
	lists := []string{voids, specialHTML, specialSVG, specialMath, endsHTML, breaks, strangers}
	for _, g := range groups {
		lists = append(lists, g.names)
	}
	for _, n := range strings.Fields(strings.Join(lists, " ")) {
		all = append(all, n, strings.ToUpper(n), strings.ToUpper(n[:1])+n[1:], " "+n, n+" ", n+"x", "x"+n, n[1:], n[:len(n)-1], "<"+n+">", "/"+n, "svg:"+n)
	}
	slices.Sort(all)
	return slices.Compact(all)
}

// spaces are the three, and some that are none.
func spaces() []int {
	return []int{api.HTML, api.SVG, api.Math, -1, -2, 3, 4, 17, 1 << 32, 1<<32 + 1, math.MinInt, math.MaxInt}
}

// Promise 7.1: the numbers of the groups, and where HTML begins again.
func TestNumbers(t *testing.T) {
	for _, g := range groups {
		if g.group != g.number {
			t.Errorf("the group of %s is %d; want %d", g.names, g.group, g.number)
		}
	}
	if Text != 1 || Whole != 2 {
		t.Errorf("Text is %d, Whole %d", Text, Whole)
	}
}

// Promise 7.1: each name's group; that of a name that is in none.
func TestGroup(t *testing.T) {
	for _, n := range some() {
		want := Other
		for _, g := range groups {
			if listed(g.names, n) {
				want = g.number
			}
		}
		if g := Group(n); g != want {
			t.Errorf("Group(%q): %d; want %d", n, g, want)
		}
	}
}

// Promise 7.1: what is void.
func TestVoid(t *testing.T) {
	for _, n := range some() {
		if Void(n) != listed(voids, n) {
			t.Errorf("Void(%q): %v", n, Void(n))
		}
	}
}

// Promise 7.1: what is special, in each space, and in one that is none.
func TestSpecial(t *testing.T) {
	lists := map[int]string{api.HTML: specialHTML, api.SVG: specialSVG, api.Math: specialMath}
	for _, s := range spaces() {
		for _, n := range some() {
			if Special(s, n) != listed(lists[s], n) {
				t.Errorf("Special(%d, %q): %v", s, n, Special(s, n))
			}
		}
	}
}

// Promise 7.1: what ends a scope.
func TestEnds(t *testing.T) {
	lists := map[int]string{api.HTML: endsHTML, api.SVG: specialSVG, api.Math: specialMath}
	for _, s := range spaces() {
		for _, n := range some() {
			if Ends(s, n) != listed(lists[s], n) {
				t.Errorf("Ends(%d, %q): %v", s, n, Ends(s, n))
			}
		}
	}
}

// Promise 7.1: what breaks out.
func TestBreaks(t *testing.T) {
	for _, n := range some() {
		if Breaks(n) != listed(breaks, n) {
			t.Errorf("Breaks(%q): %v", n, Breaks(n))
		}
	}
}

// Promise 7.1: where HTML begins again.
func TestAgain(t *testing.T) {
	for _, s := range spaces() {
		for _, n := range some() {
			want := 0
			switch {
			case s == api.SVG && listed(specialSVG, n):
				want = 2
			case s == api.Math && listed(specialMath, n):
				want = 1
			}
			if a := Again(s, n); a != want {
				t.Errorf("Again(%d, %q): %d; want %d", s, n, a, want)
			}
		}
	}
}

// Promise 7.2: what is special besides, and what never is.
func TestWhatFollows(t *testing.T) {
	for _, n := range some() {
		g := Group(n)
		if (Void(n) || g == Block || g == Heading || g == Part) && !Special(api.HTML, n) {
			t.Errorf("%q is not special", n)
		}
		if g == Format && Special(api.HTML, n) {
			t.Errorf("%q is a Format, and special", n)
		}
		for _, s := range spaces() {
			if Ends(s, n) && !Special(s, n) {
				t.Errorf("%q of %d ends a scope, and is not special", n, s)
			}
		}
	}
}

// The chapter's example.
func TestExample(t *testing.T) {
	if Group("td") != Part || !Special(api.HTML, "td") || !Ends(api.HTML, "td") {
		t.Error("td")
	}
	if Group("b") != Format || !Breaks("b") {
		t.Error("b")
	}
}
