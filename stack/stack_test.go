package stack

import (
	"math"
	"slices"
	"strings"
	"testing"

	"recto/api"
)

// of is a stack with entries.
func of(t testing.TB, entries ...Entry) *Stack {
	t.Helper()
	s := New()
	for _, e := range entries {
		if err := s.Push(e); err != api.OK {
			t.Fatalf("Push(%v): %v", e, err)
		}
	}
	return s
}

// html are entries of HTML, their IDs counted from 0 on.
func html(names string) []Entry {
	var l []Entry
	for i, n := range strings.Fields(names) {
		l = append(l, Entry{ID: i, Name: n})
	}
	return l
}

// filled are n entries.
func filled(n int) []Entry {
	var l []Entry
	for i := range n {
		l = append(l, Entry{ID: i, Space: i % 3, Name: string(rune('a' + i%7))})
	}
	return l
}

// has fails, if a stack has other entries, or tells another top.
func has(t testing.TB, what string, s *Stack, want []Entry) {
	t.Helper()
	if got := s.All(); !slices.Equal(got, want) {
		t.Fatalf("%s: has %v; want %v", what, got, want)
	}
	top, ok := s.Top()
	if ok != (len(want) > 0) || ok && top != want[len(want)-1] || !ok && top != (Entry{}) {
		t.Fatalf("%s: the top is %v, %v of %v", what, top, ok, want)
	}
}

// Promise 9.1: the constants that the chapter names.
func TestConstants(t *testing.T) {
	if Most != 200 || General != 0 || List != 1 || Table != 2 {
		t.Error(Most, General, List, Table)
	}
}

// Promise 9.1: a new stack is empty, and no other one's.
func TestNew(t *testing.T) {
	a, b := New(), New()
	has(t, "new", a, nil)
	if err := a.Push(Entry{ID: 1, Name: "p"}); err != api.OK {
		t.Error(err)
	}
	has(t, "the one", a, []Entry{{ID: 1, Name: "p"}})
	has(t, "the other", b, nil)
	has(t, "one more", New(), nil)
}

// Promise 9.1: what is put on it is its top, and comes off again in turn.
func TestPushPop(t *testing.T) {
	l := []Entry{{ID: 3, Name: "html"}, {ID: -1, Space: api.SVG, Name: "svg"}, {ID: math.MinInt, Space: api.Math, Name: ""}, {ID: math.MaxInt, Space: -7, Name: "\xff\x00"}, {ID: 3, Space: 99, Name: "html"}, {}}
	s := New()
	for i, e := range l {
		if err := s.Push(e); err != api.OK {
			t.Errorf("Push(%v): %v", e, err)
		}
		has(t, "pushed", s, l[:i+1])
	}
	for i := len(l) - 1; i >= 0; i-- {
		if e, ok := s.Pop(); !ok || e != l[i] {
			t.Errorf("Pop: %v, %v; want %v", e, ok, l[i])
		}
		has(t, "popped", s, l[:i])
	}
	for range 2 {
		if e, ok := s.Pop(); ok || e != (Entry{}) {
			t.Errorf("Pop of none: %v, %v", e, ok)
		}
	}
	if err := s.Push(l[1]); err != api.OK {
		t.Error(err)
	}
	has(t, "pushed again", s, l[1:2])
}

// Promise 9.1: Most entries, and one more, by Push and by Insert; a place that is none comes first.
func TestFull(t *testing.T) {
	l := filled(Most)
	s := of(t, l[:Most-1]...)
	if err := s.Insert(Most-1, l[Most-1]); err != api.OK {
		t.Errorf("the last one: %v", err)
	}
	has(t, "full", s, l)
	e := Entry{ID: -5, Name: "x"}
	if err := s.Push(e); err != api.ErrFull {
		t.Errorf("Push: %v", err)
	}
	for _, at := range []int{0, 1, Most - 1, Most} {
		if err := s.Insert(at, e); err != api.ErrFull {
			t.Errorf("Insert at %d: %v", at, err)
		}
	}
	for _, at := range []int{-1, Most + 1, math.MinInt, math.MaxInt} {
		if err := s.Insert(at, e); err != api.ErrArg {
			t.Errorf("Insert at %d: %v", at, err)
		}
	}
	has(t, "refused", s, l)
	if !s.Remove(0) {
		t.Error("Remove")
	}
	if err := s.Insert(0, e); err != api.OK {
		t.Errorf("Insert where there is room again: %v", err)
	}
	has(t, "full again", s, append([]Entry{e}, l[1:]...))
	if err := s.Push(e); err != api.ErrFull {
		t.Errorf("Push: %v", err)
	}
}

// Promise 9.1: each place that there is, and those beside it.
func TestInsert(t *testing.T) {
	e := Entry{ID: 77, Space: api.Math, Name: "mi"}
	for n := range 6 {
		l := filled(n)
		for at := -3; at <= n+3; at++ {
			s := of(t, l...)
			err := s.Insert(at, e)
			if at < 0 || at > n {
				if err != api.ErrArg {
					t.Errorf("Insert at %d of %d: %v", at, n, err)
				}
				has(t, "refused", s, l)
				continue
			}
			if err != api.OK || s.Find(77) != at {
				t.Errorf("Insert at %d of %d: %v, found at %d", at, n, err, s.Find(77))
			}
			has(t, "inserted", s, slices.Concat(l[:at], []Entry{e}, l[at:]))
		}
	}
}

// Promise 9.1: an ID that stands twice is that of the last one; one that is not there.
func TestFindRemove(t *testing.T) {
	l := []Entry{{ID: 4, Name: "a"}, {ID: -9, Name: "b"}, {ID: 4, Space: api.SVG, Name: "c"}, {ID: 0, Name: "d"}, {ID: 4, Name: "e"}}
	for _, c := range []struct{ id, at int }{{4, 4}, {-9, 1}, {0, 3}, {1, -1}, {-1, -1}, {math.MaxInt, -1}, {math.MinInt, -1}} {
		s := of(t, l...)
		if at := s.Find(c.id); at != c.at {
			t.Errorf("Find(%d): %d; want %d", c.id, at, c.at)
		}
		has(t, "found", s, l)
		if ok := s.Remove(c.id); ok != (c.at >= 0) {
			t.Errorf("Remove(%d): %v", c.id, ok)
		}
		want := l
		if c.at >= 0 {
			want = slices.Concat(l[:c.at], l[c.at+1:])
		}
		has(t, "removed", s, want)
	}
	s := of(t, l...)
	for i, at := range []int{4, 2, 0, -1, -1} {
		if got := s.Find(4); got != at {
			t.Errorf("%d: Find: %d; want %d", i, got, at)
		}
		if ok := s.Remove(4); ok != (at >= 0) {
			t.Errorf("%d: Remove: %v", i, ok)
		}
	}
	has(t, "without them", s, []Entry{l[1], l[3]})
}

// Promise 9.2: the chapter's example, and each scope.
func TestInExamples(t *testing.T) {
	for _, c := range []struct {
		stack string
		scope int
		names string
		want  bool
	}{
		{"html table td p", General, "p", true},
		{"html table td p", General, "tr", false},
		{"html table td p", Table, "table", true},
		{"html table td p", General, "table", false},
		{"html table td p", General, "td", true},
		{"html table td p", General, "html", false},
		{"html table td p", Table, "html", false},
		{"html table td p", Table, "tr table", true},
		{"html table td p", List, "td", true},
		{"html p ul li", General, "p", true},
		{"html p ul li", List, "p", false},
		{"html p ol li", List, "p", false},
		{"html p ol li", Table, "p", true},
		{"html p ul li", List, "li", true},
		{"html p ul li", List, "ul", true},
		{"html p ul li", List, "ol ul", true},
		{"html p", List, "html", true},
		{"html p", Table, "html", true},
		{"p html b", General, "p", false},
		{"p html b", List, "p", false},
		{"p html b", Table, "p", false},
		{"p caption b", General, "p", false},
		{"p th b", General, "p", false},
		{"p th b", List, "p", false},
		{"p caption td th tr tbody ul ol", Table, "p", true},
		{"p div section blockquote body", General, "p", true},
		{"p", General, "", false},
		{"p", General, "P", false},
		{"p", General, "b i p", true},
		{"p b", General, "i", false},
		{"", General, "p", false},
		{"", Table, "", false},
	} {
		s := of(t, html(c.stack)...)
		if got := s.In(c.scope, strings.Fields(c.names)...); got != c.want {
			t.Errorf("%s: In(%d, %s): %v", c.stack, c.scope, c.names, got)
		}
		has(t, c.stack, s, html(c.stack))
	}
}

// plainIn is the chapter's words of names in a scope, with what ends it written out.
func plainIn(l []Entry, scope int, names []string) bool {
	ends := []string{"0 caption", "0 html", "0 table", "0 td", "0 th", "1 desc", "1 foreignobject", "1 title", "2 mi", "2 mn", "2 mo", "2 ms", "2 mtext"}
	switch scope {
	case 1:
		ends = append(ends, "0 ol", "0 ul")
	case 2:
		ends = []string{"0 html", "0 table"}
	}
	for i := len(l) - 1; i >= 0; i-- {
		if l[i].Space == 0 && slices.Contains(names, l[i].Name) {
			return true
		}
		if 0 <= l[i].Space && l[i].Space <= 2 && slices.Contains(ends, string(rune('0'+l[i].Space))+" "+l[i].Name) {
			return false
		}
	}
	return false
}

// each tells all stacks of at most most entries of some names in some spaces.
func each(names string, spaces []int, most int, see func(l []Entry)) {
	var kinds []Entry
	for _, s := range spaces {
		for i, n := range strings.Fields(names) {
			kinds = append(kinds, Entry{ID: i, Space: s, Name: n})
		}
	}
	var grow func(l []Entry)
	grow = func(l []Entry) {
		see(l)
		if len(l) == most {
			return
		}
		for _, k := range kinds {
			grow(append(slices.Clone(l), k))
		}
	}
	grow(nil)
}

// Promise 9.2: names in a scope, in all small stacks, the same names in all spaces, and in a scope that is none.
func TestInAll(t *testing.T) {
	asked := [][]string{nil, {}, {"p"}, {"ol"}, {"table", "p"}, {"mi"}, {"desc", "html"}, {"", "x"}}
	scopes := []int{General, List, Table, -1, 3, 4, math.MaxInt, math.MinInt}
	names := "p li ol ul html table td th caption tr tbody desc foreignobject title mi mn mo ms mtext svg"
	each(names, []int{api.HTML, api.SVG, api.Math, 3}, 2, func(l []Entry) {
		s := of(t, l...)
		for _, scope := range scopes {
			for _, n := range asked {
				if got, want := s.In(scope, n...), plainIn(l, scope, n); got != want {
					t.Fatalf("%v: In(%d, %q): %v", l, scope, n, got)
				}
			}
		}
	})
	each("p ul td html mi", []int{api.HTML, api.Math}, 4, func(l []Entry) {
		s := of(t, l...)
		for scope := range 4 {
			for _, n := range asked[2:5] {
				if got, want := s.In(scope, n...), plainIn(l, scope, n); got != want {
					t.Fatalf("%v: In(%d, %q): %v", l, scope, n, got)
				}
			}
		}
	})
}

// Promise 9.2: entries taken off up to a name, with it and without it.
func TestToBack(t *testing.T) {
	l := []Entry{{ID: 0, Name: "html"}, {ID: 1, Name: "p"}, {ID: 2, Space: api.SVG, Name: "p"}, {ID: 3, Name: "td"}, {ID: 4, Name: "b"}, {ID: 5, Space: api.Math, Name: "td"}, {ID: 6, Space: 9, Name: "html"}}
	for _, c := range []struct {
		names    string
		to, back int
	}{
		{"td", 4, 3}, {"b", 3, 2}, {"p", 6, 5}, {"html", 7, 6}, {"b td", 3, 2}, {"td b", 3, 2}, {"x td", 4, 3}, {"html p", 6, 5},
		{"x", 7, 7}, {"B", 7, 7}, {"", 7, 7},
	} {
		s := of(t, l...)
		if n := s.To(strings.Fields(c.names)...); n != c.to {
			t.Errorf("To(%s): %d; want %d", c.names, n, c.to)
		}
		has(t, "To "+c.names, s, l[:7-c.to])
		s = of(t, l...)
		if n := s.Back(strings.Fields(c.names)...); n != c.back {
			t.Errorf("Back(%s): %d; want %d", c.names, n, c.back)
		}
		has(t, "Back "+c.names, s, l[:7-c.back])
		if n := s.Back(strings.Fields(c.names)...); n != 0 {
			t.Errorf("Back(%s) again: %d", c.names, n)
		}
	}
	for _, names := range [][]string{nil, {}, {"p"}, {"", "p"}} {
		s := New()
		if s.To(names...) != 0 || s.Back(names...) != 0 {
			t.Errorf("of an empty stack, %q", names)
		}
		has(t, "empty", s, nil)
	}
	s := of(t, Entry{Name: ""}, Entry{Name: "b"})
	if n := s.To(""); n != 2 {
		t.Errorf("To of a name without bytes: %d", n)
	}
}

// Promise 9.2: li and p of HTML go, but for the one that is named.
func TestImplied(t *testing.T) {
	for _, c := range []struct {
		stack, but string
		n          int
	}{
		{"ul li p", "", 2}, {"ul li p", "li", 1}, {"ul li p", "p", 0}, {"ul li p", "ul", 2},
		{"ul p li", "li", 0}, {"ul p li", "p", 1}, {"ul li p li p", "x", 4}, {"ul li p li p", "li", 1},
		{"li p", "", 2}, {"li p p p", "li", 3}, {"li b p", "", 1}, {"li b", "", 0}, {"li td", "li", 0},
		{"ul LI P", "", 0}, {"p dd", "", 0}, {"p option", "", 0}, {"p tr", "", 0}, {"li p", "P", 2}, {"", "", 0}, {"", "p", 0},
	} {
		s := of(t, html(c.stack)...)
		if n := s.Implied(c.but); n != c.n {
			t.Errorf("%s: Implied(%q): %d; want %d", c.stack, c.but, n, c.n)
		}
		l := html(c.stack)
		has(t, c.stack, s, l[:len(l)-c.n])
	}
	for _, space := range []int{api.SVG, api.Math, -1, 3} {
		l := []Entry{{Name: "li"}, {Space: space, Name: "p"}, {Name: "p"}}
		s := of(t, l...)
		if n := s.Implied(""); n != 1 {
			t.Errorf("space %d: %d", space, n)
		}
		has(t, "of another space", s, l[:2])
		l[1].Name = "li"
		s = of(t, l...)
		if n := s.Implied(""); n != 1 {
			t.Errorf("space %d: %d", space, n)
		}
		has(t, "of another space", s, l[:2])
	}
}

// Promise 9.2: a nil stack is empty at every call.
func TestNil(t *testing.T) {
	var s *Stack
	e := Entry{ID: 1, Name: "p"}
	if err := s.Push(e); err != api.ErrState {
		t.Errorf("Push: %v", err)
	}
	for _, c := range []struct {
		at  int
		err api.Errno
	}{{0, api.ErrState}, {1, api.ErrArg}, {-1, api.ErrArg}, {Most, api.ErrArg}, {math.MaxInt, api.ErrArg}, {math.MinInt, api.ErrArg}} {
		if err := s.Insert(c.at, e); err != c.err {
			t.Errorf("Insert at %d: %v", c.at, err)
		}
	}
	has(t, "nil", s, nil)
	if e, ok := s.Pop(); ok || e != (Entry{}) {
		t.Errorf("Pop: %v, %v", e, ok)
	}
	for scope := -1; scope < 4; scope++ {
		if s.In(scope) || s.In(scope, "p") || s.In(scope, "html", "") {
			t.Errorf("In %d", scope)
		}
	}
	if s.To() != 0 || s.To("p") != 0 || s.Back() != 0 || s.Back("p") != 0 || s.Implied("") != 0 || s.Implied("p") != 0 {
		t.Error("something was taken off")
	}
	if s.Find(0) != -1 || s.Find(1) != -1 || s.Remove(0) || s.Remove(1) {
		t.Error("something was found")
	}
}

// Promise 9.3: To takes something off just if there is something; behind Back of names in a scope the top is one of them.
func TestWhatFollows(t *testing.T) {
	asked := [][]string{nil, {"p"}, {"td"}, {"p", "ul"}, {"x"}, {"mi", "html"}}
	each("p ul td html mi", []int{api.HTML, api.SVG, api.Math}, 3, func(l []Entry) {
		for _, names := range asked {
			s := of(t, l...)
			if n := s.To(names...); (n > 0) != (len(l) > 0) || n != len(l)-len(s.All()) {
				t.Fatalf("%v: To(%q): %d", l, names, n)
			}
			has(t, "To", s, l[:len(s.All())])
			for scope := General; scope <= Table; scope++ {
				s = of(t, l...)
				in := s.In(scope, names...)
				s.Back(names...)
				top, ok := s.Top()
				if in && (!ok || top.Space != api.HTML || !slices.Contains(names, top.Name)) {
					t.Fatalf("%v: behind Back(%q) the top is %v, %v", l, names, top, ok)
				}
			}
		}
	})
}

// call is one call of a stack, told as numbers, with what it is by the chapter's words on a plain list.
type call struct {
	what  string
	onIt  func(s *Stack) []int
	plain func(l []Entry) ([]Entry, []int)
}

func num(ok bool) int {
	if ok {
		return 1
	}
	return 0
}

// lastID is where an ID stands last.
func lastID(l []Entry, id int) int {
	at := -1
	for i, e := range l {
		if e.ID == id {
			at = i
		}
	}
	return at
}

func callPush(e Entry) call {
	return call{"Push " + e.Name, func(s *Stack) []int { return []int{int(s.Push(e))} }, func(l []Entry) ([]Entry, []int) {
		if len(l) == 200 {
			return l, []int{5}
		}
		return append(slices.Clone(l), e), []int{0}
	}}
}

func callInsert(at int, e Entry) call {
	return call{"Insert " + e.Name, func(s *Stack) []int { return []int{int(s.Insert(at, e))} }, func(l []Entry) ([]Entry, []int) {
		if at < 0 || at > len(l) {
			return l, []int{1}
		}
		if len(l) == 200 {
			return l, []int{5}
		}
		return slices.Concat(l[:at], []Entry{e}, l[at:]), []int{0}
	}}
}

func callPop() call {
	return call{"Pop", func(s *Stack) []int {
		e, ok := s.Pop()
		return []int{e.ID, e.Space, len(e.Name), num(ok)}
	}, func(l []Entry) ([]Entry, []int) {
		if len(l) == 0 {
			return l, []int{0, 0, 0, 0}
		}
		e := l[len(l)-1]
		return l[:len(l)-1], []int{e.ID, e.Space, len(e.Name), 1}
	}}
}

func callRemove(id int) call {
	return call{"Remove", func(s *Stack) []int { return []int{s.Find(id), num(s.Remove(id)), s.Find(id)} }, func(l []Entry) ([]Entry, []int) {
		at := lastID(l, id)
		if at < 0 {
			return l, []int{-1, 0, -1}
		}
		l = slices.Concat(l[:at], l[at+1:])
		return l, []int{at, 1, lastID(l, id)}
	}}
}

func callTo(with bool, names ...string) call {
	return call{"To/Back " + strings.Join(names, " "), func(s *Stack) []int {
		if with {
			return []int{s.To(names...)}
		}
		return []int{s.Back(names...)}
	}, func(l []Entry) ([]Entry, []int) {
		for n := 0; n < len(l); n++ {
			e := l[len(l)-1-n]
			if e.Space == 0 && slices.Contains(names, e.Name) {
				n += num(with)
				return l[:len(l)-n], []int{n}
			}
		}
		return nil, []int{len(l)}
	}}
}

func callImplied(but string) call {
	return call{"Implied " + but, func(s *Stack) []int { return []int{s.Implied(but)} }, func(l []Entry) ([]Entry, []int) {
		n := 0
		for n < len(l) {
			e := l[len(l)-1-n]
			if e.Space != 0 || e.Name == but || e.Name != "li" && e.Name != "p" {
				break
			}
			n++
		}
		return l[:len(l)-n], []int{n}
	}}
}

// Promises 9.1 and 9.2: all short rows of calls answer as the chapter's words do, and leave the same entries.
func TestRows(t *testing.T) {
	calls := []call{
		callPush(Entry{ID: 1, Name: "p"}), callPush(Entry{ID: 2, Name: "li"}), callPush(Entry{ID: 1, Space: 1, Name: "p"}), callPush(Entry{ID: 3, Name: "td"}),
		callInsert(0, Entry{ID: 1, Name: "li"}), callInsert(1, Entry{ID: 4, Name: "b"}), callInsert(-1, Entry{}), callInsert(2, Entry{ID: 2, Name: "p"}),
		callPop(), callRemove(1), callRemove(2), callRemove(0), callTo(true, "p"), callTo(false, "td", "li"), callTo(true), callTo(false),
		callImplied(""), callImplied("li"),
	}
	var grow func(l []Entry, more int)
	grow = func(l []Entry, more int) {
		for _, c := range calls {
			s := of(t, l...)
			want, told := c.plain(l)
			if got := c.onIt(s); !slices.Equal(got, told) {
				t.Fatalf("%v: %s: %v; want %v", l, c.what, got, told)
			}
			has(t, c.what, s, want)
			if more > 0 {
				grow(want, more-1)
			}
		}
	}
	grow(nil, 3)
}

// Promises 9.1 and 9.2: one long row of calls on one stack, which is full now and then.
func TestLongRow(t *testing.T) {
	s, l := New(), []Entry(nil)
	seed, full := uint32(1), 0
	next := func(n int) int {
		seed = seed*1664525 + 1013904223
		return int(seed>>8) % n
	}
	names := []string{"p", "li", "td", "b", "ul", "html"}
	for i := range 40000 {
		e := Entry{ID: next(60) - 5, Space: next(4) % 3, Name: names[next(len(names))]}
		var c call
		switch k := next(400); {
		case k == 0:
			c = callTo(true, "html", "x")
		case k == 1:
			c = callTo(false, "ul", "td")
		case k < 20:
			c = callImplied(e.Name)
		case k < 60:
			c = callRemove(e.ID)
		case k < 80:
			c = callPop()
		case k < 200:
			c = callInsert(next(len(l)+4)-1, e)
		default:
			c = callPush(e)
		}
		want, told := c.plain(l)
		if got := c.onIt(s); !slices.Equal(got, told) {
			t.Fatalf("call %d, %s: %v; want %v", i, c.what, got, told)
		}
		l = want
		has(t, c.what, s, l)
		full += num(len(l) == Most)
	}
	if full < 100 {
		t.Errorf("the stack was full only %d times", full)
	}
}

// Rule R3: what All answers is new memory, spare room too.
func TestAnswersAreNew(t *testing.T) {
	for n := range 10 {
		l := filled(n)
		s := of(t, l...)
		a, b := s.All(), s.All()
		for i := range a {
			a[i] = Entry{ID: -1, Name: "spoilt"}
		}
		for i := range a[:cap(a)] {
			a[:cap(a)][i] = Entry{ID: -2, Name: "spoilt"}
		}
		if !slices.Equal(b, l) {
			t.Errorf("%d: two answers share memory: %v", n, b)
		}
		has(t, "spoilt", s, l)
		e := Entry{ID: 50, Name: "new"}
		if err := s.Push(e); err != api.OK {
			t.Error(err)
		}
		_ = append(a, Entry{ID: -3, Name: "spoilt"})
		has(t, "pushed", s, append(slices.Clone(l), e))
		s.Pop()
		s.Remove(0)
		if !slices.Equal(b, l) {
			t.Errorf("%d: an answer changed behind the call: %v", n, b)
		}
	}
}

// Rule R3: names that are handed in are not changed, spare room too, and not kept.
func TestNamesStay(t *testing.T) {
	room := []string{"td", "p", "spare", "room"}
	names := room[:2]
	s := of(t, html("html td b p b")...)
	if !s.In(General, names...) || s.Back(names...) != 1 || s.To(names...) != 1 {
		t.Error("names")
	}
	if !slices.Equal(room, []string{"td", "p", "spare", "room"}) {
		t.Errorf("names are changed: %q", room)
	}
	names[0], names[1] = "html", "html"
	has(t, "names changed behind the call", s, html("html td b"))
	if s.Back("td") != 1 {
		t.Error("Back")
	}
}

// Rule R4: a call that answers an error, and one that asks, change nothing; rule R6: asked again, it tells the same.
func TestAskingChangesNothing(t *testing.T) {
	l := filled(Most)
	s := of(t, l...)
	for range 3 {
		s.In(General, "a")
		s.In(Table)
		s.Find(3)
		s.All()
		if s.Remove(Most) || s.Push(Entry{}) != api.ErrFull || s.Insert(0, Entry{}) != api.ErrFull || s.Insert(-1, Entry{}) != api.ErrArg {
			t.Error("an answer is another one")
		}
		has(t, "asked", s, l)
	}
}
