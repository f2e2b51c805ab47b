package active

import (
	"math"
	"slices"
	"testing"

	"recto/api"
)

// mark is a mark as it stands in a list.
var mark = Entry{Mark: true}

// of is a list with entries, put there by Insert and Mark, so that none is taken out.
func of(t testing.TB, entries ...Entry) *List {
	t.Helper()
	l := New()
	for i, e := range entries {
		err := api.OK
		if e.Mark {
			err = l.Mark()
		} else {
			err = l.Insert(i, e)
		}
		if err != api.OK {
			t.Fatalf("entry %d, %v: %v", i, e, err)
		}
	}
	return l
}

// el is an element without attributes.
func el(id int, name string) Entry { return Entry{ID: id, Name: name} }

// at is an element with attributes.
func at(id int, name string, attrs ...api.Attr) Entry { return Entry{ID: id, Name: name, Attrs: attrs} }

// filled are n elements, none of which are alike.
func filled(n int) []Entry {
	var l []Entry
	for i := range n {
		l = append(l, at(i, "b", api.Attr{Name: "n", Value: string(rune('A' + i))}))
	}
	return l
}

func equal(a, b Entry) bool {
	return a.Mark == b.Mark && a.ID == b.ID && a.Name == b.Name && slices.Equal(a.Attrs, b.Attrs)
}

// has fails, if a list has other entries.
func has(t testing.TB, what string, l *List, want ...Entry) {
	t.Helper()
	if got := l.All(); !slices.EqualFunc(got, want, equal) {
		t.Fatalf("%s: has %v; want %v", what, got, want)
	}
}

// hasIDs fails, if a list's entries have other IDs; -1 is a mark's.
func hasIDs(t testing.TB, what string, l *List, want ...int) {
	t.Helper()
	var got []int
	for _, e := range l.All() {
		if e.Mark {
			got = append(got, -1)
			continue
		}
		got = append(got, e.ID)
	}
	if !slices.Equal(got, want) {
		t.Errorf("%s: has %v; want %v", what, got, want)
	}
}

// add adds entries.
func add(t testing.TB, l *List, entries ...Entry) {
	t.Helper()
	for _, e := range entries {
		if err := l.Add(e); err != api.OK {
			t.Fatalf("Add(%v): %v", e, err)
		}
	}
}

// Promise 10.1: a new list is empty, and no other one's; it has at most 100 entries.
func TestNew(t *testing.T) {
	a, b := New(), New()
	has(t, "new", a)
	add(t, a, el(1, "b"))
	has(t, "the one", a, el(1, "b"))
	has(t, "the other", b)
	has(t, "one more", New())
	if Most != 100 {
		t.Errorf("Most is %d", Most)
	}
}

// Promise 10.1: what is added stands at the end; the same ID may stand there twice.
func TestAdd(t *testing.T) {
	l := New()
	all := []Entry{el(0, "b"), at(math.MaxInt, "a", api.Attr{Name: "href", Value: "x"}, api.Attr{}), el(0, "i"), el(7, ""), el(7, "\xff\x00"), el(0, "b")}
	for i, e := range all {
		add(t, l, e)
		has(t, "added", l, all[:i+1]...)
	}
}

// Promise 10.1: a mark is not added, nor an ID below 0; that comes ahead of ErrFull.
func TestAddWrong(t *testing.T) {
	wrong := []Entry{mark, {Mark: true, ID: 3, Name: "b"}, {Mark: true, ID: -1}, el(-1, "b"), el(math.MinInt, "")}
	l, full := of(t, el(1, "b")), of(t, filled(Most)...)
	for _, e := range wrong {
		if err := l.Add(e); err != api.ErrArg {
			t.Errorf("Add(%v): %v", e, err)
		}
		if err := full.Add(e); err != api.ErrArg {
			t.Errorf("Add(%v) to a full one: %v", e, err)
		}
		for at := -1; at <= 2; at++ {
			if err := l.Insert(at, e); err != api.ErrArg {
				t.Errorf("Insert(%d, %v): %v", at, e, err)
			}
		}
		if err := full.Insert(0, e); err != api.ErrArg {
			t.Errorf("Insert(%v) into a full one: %v", e, err)
		}
	}
	has(t, "refused", l, el(1, "b"))
	has(t, "refused", full, filled(Most)...)
}

// Promise 10.1: Most entries, and one more, by Add, Mark and Insert, also where Add would take one out.
func TestFull(t *testing.T) {
	for _, last := range []Entry{mark, filled(Most)[Most-1]} {
		want := append(filled(Most-1), last)
		l := of(t, filled(Most-1)...)
		if last.Mark {
			if err := l.Mark(); err != api.OK {
				t.Errorf("the last mark: %v", err)
			}
		} else {
			add(t, l, last)
		}
		has(t, "full", l, want...)
		if l.Add(el(5, "i")) != api.ErrFull || l.Mark() != api.ErrFull {
			t.Error("one more")
		}
		for _, at := range []int{0, 1, Most - 1, Most} {
			if err := l.Insert(at, el(5, "i")); err != api.ErrFull {
				t.Errorf("Insert at %d: %v", at, err)
			}
		}
		for _, at := range []int{-1, Most + 1, math.MinInt, math.MaxInt} {
			if err := l.Insert(at, el(5, "i")); err != api.ErrArg {
				t.Errorf("Insert at %d: %v", at, err)
			}
		}
		has(t, "refused", l, want...)
		if !l.Swap(0, el(5, "i")) {
			t.Error("Swap where it is full")
		}
		if !l.Remove(1) {
			t.Error("Remove")
		}
		add(t, l, el(6, "u"))
		if l.Add(el(5, "i")) != api.ErrFull {
			t.Error("full again")
		}
	}
	l := New()
	for i := range Most {
		if err := l.Insert(i, el(i, "b")); err != api.OK {
			t.Fatal(err)
		}
	}
	if err := l.Add(el(Most, "b")); err != api.ErrFull {
		t.Errorf("alike to all of a full one: %v", err)
	}
	if l.Find(0) != 0 || len(l.All()) != Most {
		t.Error("one was taken out")
	}
}

// Promise 10.1: of three that are alike the first goes, as one more is added; the chapter's example.
func TestThree(t *testing.T) {
	l := New()
	add(t, l, el(1, "b"), el(2, "b"), el(3, "b"))
	hasIDs(t, "three", l, 1, 2, 3)
	add(t, l, el(4, "b"))
	hasIDs(t, "the example", l, 2, 3, 4)
	add(t, l, el(5, "i"), el(6, "b"))
	hasIDs(t, "others between", l, 3, 4, 5, 6)
	add(t, l, el(7, "i"), el(8, "i"), el(9, "i"))
	hasIDs(t, "another name", l, 3, 4, 6, 7, 8, 9)
	add(t, l, el(3, "b"))
	hasIDs(t, "the same ID", l, 4, 6, 7, 8, 9, 3)
	l = of(t, el(1, "b"), el(2, "b"), el(3, "b"), el(4, "b"), el(5, "b"))
	add(t, l, el(6, "b"))
	hasIDs(t, "more than three: one goes", l, 2, 3, 4, 5, 6)
}

// Promise 10.1: just those behind the last mark are held against it.
func TestThreeAndMarks(t *testing.T) {
	l := New()
	add(t, l, el(1, "b"), el(2, "b"), el(3, "b"))
	l.Mark()
	add(t, l, el(4, "b"), el(5, "b"), el(6, "b"))
	hasIDs(t, "three and three", l, 1, 2, 3, -1, 4, 5, 6)
	add(t, l, el(7, "b"))
	hasIDs(t, "the first behind the mark", l, 1, 2, 3, -1, 5, 6, 7)
	l.Mark()
	add(t, l, el(8, "b"))
	hasIDs(t, "behind the second mark", l, 1, 2, 3, -1, 5, 6, 7, -1, 8)
	l.Clear()
	add(t, l, el(9, "b"))
	hasIDs(t, "behind the first mark again", l, 1, 2, 3, -1, 6, 7, 9)
	l.Clear()
	add(t, l, el(10, "b"))
	hasIDs(t, "without a mark again", l, 2, 3, 10)
}

// Promise 10.1: which entries are alike: added three times the one, is it taken out by the other?
func TestAlike(t *testing.T) {
	x, y, z := api.Attr{Name: "x", Value: "1"}, api.Attr{Name: "y"}, api.Attr{Name: "x", Value: "2"}
	for i, c := range []struct {
		a, b Entry
		want bool
	}{
		{at(0, "b"), at(0, "b"), true},
		{at(0, "b"), at(0, "i"), false},
		{at(0, "b"), at(0, "B"), false},
		{at(0, "b", x), at(0, "b", x), true},
		{at(0, "b", x), at(0, "i", x), false},
		{at(0, "b", x), at(0, "b"), false},
		{at(0, "b"), at(0, "b", x), false},
		{at(0, "b", x), at(0, "b", z), false},
		{at(0, "b", x), at(0, "b", y), false},
		{at(0, "b", x, y), at(0, "b", y, x), true},
		{at(0, "b", x, y, z), at(0, "b", z, x, y), true},
		{at(0, "b", x, z), at(0, "b", z, x), true},
		{at(0, "b", x, y), at(0, "b", x, z), false},
		{at(0, "b", x, y), at(0, "b", x), false},
		{at(0, "b", x), at(0, "b", x, x), false},
		{at(0, "b", x, x), at(0, "b", x, x), false},
		{at(0, "b", x, x), at(0, "b", x, y), false},
		{at(0, "b", x, y), at(0, "b", x, x), false},
		{at(0, "b", x, x, y), at(0, "b", x, y, y), false},
		{at(0, "b", x, y, x), at(0, "b", x, y, x), false},
		{at(0, "b", y, x, x), at(0, "b", y, x, z), false},
		{at(0, "b", y, x, z), at(0, "b", y, x, x), false},
		{at(0, "b", api.Attr{Name: "xy"}), at(0, "b", api.Attr{Name: "x", Value: "y"}), false},
		{at(0, "b", api.Attr{Name: "X", Value: "1"}), at(0, "b", x), false},
		{at(0, "b", api.Attr{}), at(0, "b", api.Attr{}), true},
		{at(0, "b", api.Attr{}), at(0, "b"), false},
	} {
		l := of(t, c.a, c.a, c.a)
		if !l.Swap(0, Entry{ID: 3, Name: c.a.Name, Attrs: c.a.Attrs}) {
			t.Fatal("Swap")
		}
		add(t, l, Entry{ID: 9, Name: c.b.Name, Attrs: c.b.Attrs})
		if c.want {
			hasIDs(t, "alike", l, 0, 3, 9)
		} else {
			hasIDs(t, "not alike", l, 0, 0, 3, 9)
		}
		if t.Failed() {
			t.Fatalf("%d: %v and %v", i, c.a, c.b)
		}
	}
}

// Promise 10.1: an entry with an attribute that stands twice is alike to none, so that any number of them stays.
func TestTwiceTheAttribute(t *testing.T) {
	l := New()
	for i := range 6 {
		add(t, l, at(i, "b", api.Attr{Name: "x"}, api.Attr{Name: "x"}))
	}
	hasIDs(t, "twice the attribute", l, 0, 1, 2, 3, 4, 5)
}

// Promise 10.1: a mark at the end, and what Clear takes out.
func TestMarkClear(t *testing.T) {
	l := New()
	l.Clear()
	has(t, "nothing cleared", l)
	add(t, l, el(1, "b"), el(2, "i"))
	l.Clear()
	has(t, "cleared without a mark", l)
	add(t, l, el(1, "b"))
	for range 2 {
		if err := l.Mark(); err != api.OK {
			t.Error(err)
		}
	}
	add(t, l, el(2, "i"), el(3, "u"))
	has(t, "two marks", l, el(1, "b"), mark, mark, el(2, "i"), el(3, "u"))
	l.Clear()
	has(t, "the last mark", l, el(1, "b"), mark)
	l.Clear()
	has(t, "a mark at the end", l, el(1, "b"))
	l.Clear()
	has(t, "no mark is left", l)
	l.Mark()
	l.Clear()
	has(t, "a mark alone", l)
}

// Promise 10.2: the last one of a name in the last part.
func TestLast(t *testing.T) {
	x := api.Attr{Name: "x"}
	l := of(t, el(1, "a"), at(2, "b", x), el(3, "b"), at(4, "a", x, x), el(5, ""))
	for _, c := range []struct {
		name string
		want Entry
		ok   bool
	}{{"a", at(4, "a", x, x), true}, {"b", el(3, "b"), true}, {"", el(5, ""), true}, {"A", Entry{}, false}, {"i", Entry{}, false}} {
		if e, ok := l.Last(c.name); ok != c.ok || !equal(e, c.want) {
			t.Errorf("Last(%q): %v, %v", c.name, e, ok)
		}
	}
	l.Mark()
	add(t, l, el(6, "i"))
	for _, n := range []string{"a", "b", ""} {
		if e, ok := l.Last(n); ok || !equal(e, Entry{}) {
			t.Errorf("Last(%q) ahead of a mark: %v, %v", n, e, ok)
		}
	}
	if e, ok := l.Last("i"); !ok || e.ID != 6 {
		t.Errorf("Last behind a mark: %v, %v", e, ok)
	}
	l.Mark()
	for _, n := range []string{"i", "a", ""} {
		if e, ok := l.Last(n); ok || !equal(e, Entry{}) {
			t.Errorf("Last(%q) where a mark is last: %v, %v", n, e, ok)
		}
	}
}

// Promise 10.2: an ID that stands twice, one that is not there, and marks, which have none.
func TestFindRemove(t *testing.T) {
	all := []Entry{el(4, "a"), mark, el(2, "b"), el(4, "c"), mark, mark, el(0, "d"), mark}
	for _, c := range []struct{ id, at int }{{4, 3}, {2, 2}, {0, 6}, {1, -1}, {-1, -1}, {math.MaxInt, -1}, {math.MinInt, -1}} {
		l := of(t, all...)
		if at := l.Find(c.id); at != c.at {
			t.Errorf("Find(%d): %d", c.id, at)
		}
		has(t, "found", l, all...)
		want := all
		if c.at >= 0 {
			want = slices.Concat(all[:c.at], all[c.at+1:])
		}
		if ok := l.Remove(c.id); ok != (c.at >= 0) {
			t.Errorf("Remove(%d): %v", c.id, ok)
		}
		has(t, "removed", l, want...)
	}
	l := of(t, all...)
	if !l.Remove(4) || l.Find(4) != 0 || !l.Remove(4) || l.Find(4) != -1 || l.Remove(4) {
		t.Error("an ID that stood twice")
	}
	l = of(t, mark)
	if l.Find(0) != -1 || l.Remove(0) || l.Swap(0, el(1, "b")) {
		t.Error("a mark has no ID")
	}
	has(t, "a mark", l, mark)
}

// Promise 10.2: one element in another one's place, which may be alike to any others.
func TestSwap(t *testing.T) {
	all := []Entry{el(4, "a"), mark, el(4, "b"), el(5, "b"), el(0, "b")}
	e := at(7, "b", api.Attr{Name: "x", Value: "y"})
	for _, c := range []struct{ id, at int }{{4, 2}, {5, 3}, {0, 4}, {7, -1}, {-1, -1}, {math.MinInt, -1}} {
		l := of(t, all...)
		if ok := l.Swap(c.id, e); ok != (c.at >= 0) {
			t.Errorf("Swap(%d): %v", c.id, ok)
		}
		want := slices.Clone(all)
		if c.at >= 0 {
			want[c.at] = e
		}
		has(t, "swapped", l, want...)
	}
	l := of(t, all...)
	for _, w := range []Entry{mark, {Mark: true, ID: 4, Name: "b"}, el(-1, "b"), el(math.MinInt, "b")} {
		for _, id := range []int{4, 0, 9, -1} {
			if l.Swap(id, w) {
				t.Errorf("Swap(%d, %v)", id, w)
			}
		}
	}
	has(t, "refused", l, all...)
	l = of(t, el(1, "b"), el(2, "b"), el(3, "b"), el(4, "i"))
	if !l.Swap(4, el(5, "b")) || !l.Swap(1, el(1, "b")) || !l.Swap(2, el(3, "b")) {
		t.Error("Swap")
	}
	hasIDs(t, "four that are alike", l, 1, 3, 3, 5)
}

// Promise 10.2: each place that there is, and those beside it; none is taken out.
func TestInsert(t *testing.T) {
	all := []Entry{el(1, "b"), el(2, "b"), mark, el(3, "b"), el(4, "b"), el(5, "b")}
	e := el(9, "b")
	for n := range len(all) + 1 {
		for at := -3; at <= n+3; at++ {
			l := of(t, all[:n]...)
			err := l.Insert(at, e)
			if at < 0 || at > n {
				if err != api.ErrArg {
					t.Errorf("Insert at %d of %d: %v", at, n, err)
				}
				has(t, "refused", l, all[:n]...)
				continue
			}
			if err != api.OK || l.Find(9) != at {
				t.Errorf("Insert at %d of %d: %v", at, n, err)
			}
			has(t, "inserted", l, slices.Concat(all[:at], []Entry{e}, all[at:n])...)
		}
	}
}

// Promise 10.3: what is to be begun anew.
func TestCut(t *testing.T) {
	list := []Entry{el(1, "b"), el(2, "b"), mark, el(3, "i"), el(4, "i"), el(0, "u"), el(4, "u")}
	for i, c := range []struct {
		list []Entry
		open []int
		want []int
	}{
		{nil, nil, nil},
		{nil, []int{1, 0}, nil},
		{[]Entry{mark}, nil, nil},
		{[]Entry{mark}, []int{0}, nil},
		{list[:3], nil, nil},
		{list[:3], []int{1, 2, 0}, nil},
		{list[:2], nil, []int{0, 1}},
		{list[:2], []int{}, []int{0, 1}},
		{list[:2], []int{2}, nil},
		{list[:2], []int{1}, []int{1}},
		{list[:2], []int{1, 2}, nil},
		{list[:2], []int{3, -1, 0, math.MaxInt, math.MinInt}, []int{0, 1}},
		{list, nil, []int{3, 4, 5, 6}},
		{list, []int{1, 2}, []int{3, 4, 5, 6}},
		{list, []int{3}, []int{4, 5, 6}},
		{list, []int{0}, []int{6}},
		{list, []int{3, 0, 1}, []int{6}},
		{list, []int{4}, nil},
		{list, []int{7, 7, 3, 3}, []int{4, 5, 6}},
		{list[:6], []int{4}, []int{5}},
		{list[:6], []int{0}, nil},
		{list[:5], []int{0}, []int{3, 4}},
	} {
		l := of(t, c.list...)
		open := slices.Clone(c.open)
		if got := l.Cut(open); !slices.Equal(got, c.want) {
			t.Errorf("%d: Cut(%v): %v; want %v", i, c.open, got, c.want)
		}
		if !slices.Equal(open, c.open) {
			t.Errorf("%d: what was handed in is changed: %v", i, open)
		}
		has(t, "cut", l, c.list...)
	}
}

// Promise 10.3: a nil list is empty at every call.
func TestNil(t *testing.T) {
	var l *List
	if l.Add(el(0, "b")) != api.ErrState || l.Mark() != api.ErrState || l.Insert(0, el(0, "b")) != api.ErrState {
		t.Error("no ErrState")
	}
	for _, e := range []Entry{mark, el(-1, "b")} {
		if l.Add(e) != api.ErrArg || l.Insert(0, e) != api.ErrArg {
			t.Errorf("%v: no ErrArg", e)
		}
	}
	for _, at := range []int{-1, 1, Most, math.MinInt, math.MaxInt} {
		if err := l.Insert(at, el(0, "b")); err != api.ErrArg {
			t.Errorf("Insert at %d: %v", at, err)
		}
	}
	l.Clear()
	if e, ok := l.Last(""); ok || !equal(e, Entry{}) {
		t.Errorf("Last: %v, %v", e, ok)
	}
	if l.Find(0) != -1 || l.Remove(0) || l.Swap(0, el(0, "b")) || l.Swap(-1, mark) {
		t.Error("something was found")
	}
	if len(l.All()) != 0 || len(l.Cut(nil)) != 0 || len(l.Cut([]int{0})) != 0 {
		t.Error("there is something")
	}
}

// plainAlike is the chapter's words: as many, and each of the one's just once in both.
func plainAlike(a, b Entry) bool {
	times := func(x api.Attr, l []api.Attr) int {
		n := 0
		for _, y := range l {
			if x.Name == y.Name && x.Value == y.Value {
				n++
			}
		}
		return n
	}
	ok := a.Name == b.Name && len(a.Attrs) == len(b.Attrs)
	for _, x := range a.Attrs {
		ok = ok && times(x, a.Attrs) == 1 && times(x, b.Attrs) == 1
	}
	return ok
}

// part is where the last part of a list begins.
func part(l []Entry) int {
	from := 0
	for i, e := range l {
		if e.Mark {
			from = i + 1
		}
	}
	return from
}

// plainAdd is the chapter's words of Add on a plain list.
func plainAdd(l []Entry, e Entry) []Entry {
	first, n := -1, 0
	for i := len(l) - 1; i >= part(l); i-- {
		if plainAlike(l[i], e) {
			first = i
			n++
		}
	}
	if n >= 3 {
		l = slices.Concat(l[:first], l[first+1:])
	}
	return append(slices.Clone(l), e)
}

// Promises 10.1 and 10.4: all rows of entries added and marked; never more than three that are alike to the last one.
func TestRowsAdded(t *testing.T) {
	x, y := api.Attr{Name: "x"}, api.Attr{Name: "y"}
	kinds := []Entry{mark, el(1, "b"), el(2, "i"), at(3, "b", x, y), at(4, "b", y, x), at(5, "b", x, x)}
	var grow func(row []Entry)
	grow = func(row []Entry) {
		l, want := New(), []Entry(nil)
		for _, e := range row {
			if e.Mark {
				l.Mark()
				want = append(want, e)
				continue
			}
			add(t, l, e)
			want = plainAdd(want, e)
		}
		has(t, "added", l, want...)
		all, n := l.All(), 0
		for _, e := range all[part(all):] {
			n += num(plainAlike(e, all[len(all)-1]))
		}
		if n > 3 {
			t.Fatalf("%v: %d are alike to the last one", all, n)
		}
		if len(row) < 6 {
			for _, k := range kinds {
				grow(append(slices.Clone(row), k))
			}
		}
	}
	grow(nil)
}

func num(ok bool) int {
	if ok {
		return 1
	}
	return 0
}

// Promises 10.1 to 10.3: one long row of calls on one list, which is full now and then, against a plain one.
func TestLongRow(t *testing.T) {
	l, p := New(), []Entry(nil)
	seed, full := uint32(7), 0
	next := func(n int) int {
		seed = seed*1664525 + 1013904223
		return int(seed>>8) % n
	}
	attrs := []api.Attr{{Name: "x"}, {Name: "x", Value: "1"}, {Name: "y"}}
	for i := range 40000 {
		e := Entry{Mark: next(50) == 0, ID: next(62) - 2, Name: string(rune('a' + next(9)))}
		for range next(3) {
			e.Attrs = append(e.Attrs, attrs[next(3)])
		}
		place := next(len(p)+4) - 2
		var got, want int
		switch k := next(200); {
		case k == 0:
			l.Clear()
			p = p[:max(part(p)-1, 0)]
		case k < 20:
			got, want = int(l.Mark()), int(room(p))
			if want == 0 {
				p = append(slices.Clone(p), mark)
			}
		case k < 40:
			got, want, p = num(l.Remove(place)), num(plainFind(p, place) >= 0), plainPut(p, plainFind(p, place))
		case k < 60:
			ok := plainFind(p, place) >= 0 && !e.Mark && e.ID >= 0
			got, want = num(l.Swap(place, e)), num(ok)
			if ok {
				p = plainPut(p, plainFind(p, place), e)
			}
		case k < 110:
			got, want = int(l.Insert(place, e)), int(right(e))
			if place < 0 || place > len(p) {
				want = int(api.ErrArg)
			}
			if want = max(want, num(want == 0)*int(room(p))); want == 0 {
				p = slices.Concat(p[:place], []Entry{e}, p[place:])
			}
		default:
			got, want = int(l.Add(e)), int(right(e))
			if want = max(want, num(want == 0)*int(room(p))); want == 0 {
				p = plainAdd(p, e)
			}
		}
		if got != want {
			t.Fatalf("call %d: %d; want %d", i, got, want)
		}
		has(t, "a long row", l, p...)
		asks(t, l, p, e, place)
		full += num(len(p) == Most)
	}
	if full < 100 {
		t.Errorf("the list was full only %d times", full)
	}
}

func right(e Entry) api.Errno {
	if e.Mark || e.ID < 0 {
		return 1
	}
	return 0
}

func room(l []Entry) api.Errno {
	if len(l) == 100 {
		return 5
	}
	return 0
}

func plainFind(l []Entry, id int) int {
	at := -1
	for i, e := range l {
		if !e.Mark && e.ID == id {
			at = i
		}
	}
	return at
}

// plainPut has entries, or none, in the place of one.
func plainPut(l []Entry, at int, entries ...Entry) []Entry {
	if at < 0 {
		return l
	}
	return slices.Concat(l[:at], entries, l[at+1:])
}

// asks holds what a list tells against a plain one.
func asks(t *testing.T, l *List, p []Entry, e Entry, id int) {
	t.Helper()
	if got, want := l.Find(id), plainFind(p, id); got != want {
		t.Fatalf("Find(%d): %d; want %d", id, got, want)
	}
	last := -1
	for i := part(p); i < len(p); i++ {
		if p[i].Name == e.Name {
			last = i
		}
	}
	got, ok := l.Last(e.Name)
	if ok != (last >= 0) || ok && !equal(got, p[last]) || !ok && !equal(got, Entry{}) {
		t.Fatalf("Last(%s): %v, %v", e.Name, got, ok)
	}
	open := []int{id, e.ID, 3}
	var cut []int
	for i := len(p) - 1; i >= 0 && !p[i].Mark && !slices.Contains(open, p[i].ID); i-- {
		cut = append([]int{i}, cut...)
	}
	if got := l.Cut(open); !slices.Equal(got, cut) {
		t.Fatalf("Cut(%v): %v; want %v", open, got, cut)
	}
}

// spoil changes all that a list of attributes has, spare room too.
func spoil(a []api.Attr) {
	a = a[:cap(a)]
	for i := range a {
		a[i] = api.Attr{Name: "spoilt"}
	}
}

// Rule R3: what is handed in is not kept: Attrs may be changed behind each call.
func TestNotKept(t *testing.T) {
	xy := func() []api.Attr {
		return append(make([]api.Attr, 0, 5), api.Attr{Name: "x"}, api.Attr{Name: "y", Value: "1"})
	}
	l := New()
	a, b, c := xy(), xy(), xy()
	add(t, l, Entry{ID: 1, Name: "b", Attrs: a}, el(2, "i"))
	if l.Insert(1, Entry{ID: 3, Name: "b", Attrs: b}) != api.OK || !l.Swap(2, Entry{ID: 4, Name: "b", Attrs: c}) {
		t.Error("Insert, Swap")
	}
	for _, x := range [][]api.Attr{a, b, c} {
		if !slices.Equal(x[:5], append(xy(), api.Attr{}, api.Attr{}, api.Attr{})) {
			t.Errorf("what was handed in is changed: %v", x[:5])
		}
		spoil(x)
	}
	want := []Entry{at(1, "b", xy()...), at(3, "b", xy()...), at(4, "b", xy()...)}
	has(t, "spoilt", l, want...)
	add(t, l, at(5, "b", api.Attr{Name: "y", Value: "1"}, api.Attr{Name: "x"}))
	hasIDs(t, "they are alike still", l, 3, 4, 5)
}

// Rule R3: an answer is new memory, spare room too, each entry's Attrs for itself.
func TestAnswersAreNew(t *testing.T) {
	x, y := api.Attr{Name: "x"}, api.Attr{Name: "y", Value: "1"}
	all := []Entry{at(1, "b", x, y, x), mark, at(2, "i", y), at(3, "i", x, y), el(4, "u")}
	l := of(t, all...)
	one, other := l.All(), l.All()
	for i := range one {
		spoil(one[i].Attrs)
		for k := range one {
			if k > i && !slices.Equal(one[k].Attrs, all[k].Attrs) {
				t.Errorf("the Attrs of %d and %d share memory", i, k)
			}
		}
	}
	for i := range one[:cap(one)] {
		one[:cap(one)][i] = Entry{ID: 9, Name: "spoilt"}
	}
	last, ok := l.Last("i")
	if !ok || !equal(last, all[3]) {
		t.Errorf("Last: %v, %v", last, ok)
	}
	spoil(last.Attrs)
	if cut := l.Cut(nil); len(cut) != 3 {
		t.Errorf("Cut: %v", cut)
	} else {
		cut[0] = 99
	}
	has(t, "spoilt", l, all...)
	if !slices.EqualFunc(other, all, equal) {
		t.Errorf("two answers share memory: %v", other)
	}
	kept, _ := l.Last("i")
	l.Swap(3, el(5, "a"))
	l.Remove(1)
	l.Clear()
	if !slices.EqualFunc(other, all, equal) || !equal(kept, all[3]) {
		t.Errorf("answers changed behind the calls: %v, %v", other, kept)
	}
}

// Rule R3: one entry's Attrs, added twice, are two lists.
func TestAddedTwice(t *testing.T) {
	e := at(1, "b", api.Attr{Name: "x"})
	l := New()
	add(t, l, e, e)
	if !l.Swap(1, el(2, "i")) {
		t.Error("Swap")
	}
	has(t, "added twice", l, e, el(2, "i"))
}
