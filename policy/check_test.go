package policy

import (
	"fmt"
	"math/rand"
	"slices"
	"strings"
	"testing"

	"recto/api"
	"recto/pen"
)

// names are that many names, each another one.
func names(begin string, n int) []string {
	var l []string
	for i := range n {
		l = append(l, fmt.Sprint(begin, i))
	}
	return l
}

// rules are that many rules, each of another Name.
func rules(n int) []Rule {
	var l []Rule
	for _, name := range names("n", n) {
		l = append(l, Rule{Name: name, Act: Keep})
	}
	return l
}

// changed is small, changed.
func changed(change func(p *Policy)) Policy {
	p := small()
	change(&p)
	return p
}

// noNames are texts that are no names.
func noNames() []string {
	return []string{"", "A", "xY", "1", "-a", ":a", "a b", "a_", "a.", "a\n", "a\x00", "\xff", "a\xff", "\xc3\xa9", strings.Repeat("a", api.MaxName+1), strings.Repeat("a", 100000)}
}

// wrong are policies that are not right, a word beside each.
func wrong() map[string]Policy {
	return map[string]Policy{
		"zero":         {},
		"rules":        changed(func(p *Policy) { p.Rules = append(p.Rules, rules(57)...) }),
		"schemes":      changed(func(p *Policy) { p.Schemes = names("s", 21) }),
		"attrs":        changed(func(p *Policy) { p.Rules[3].Attrs = names("a", 21) }),
		"links":        changed(func(p *Policy) { p.Rules[3].Links = names("l", 21) }),
		"one Name":     changed(func(p *Policy) { p.Rules[3].Name = "x" }),
		"name twice":   changed(func(p *Policy) { p.Rules[0].Links[1] = "a" }),
		"no name":      changed(func(p *Policy) { p.Rules[3].Name = "K" }),
		"no attribute": changed(func(p *Policy) { p.Rules[2].Attrs[0] = "" }),
		"no link":      changed(func(p *Policy) { p.Rules[1].Links[0] = "\xff" }),
		"no act":       changed(func(p *Policy) { p.Rules[3].Act = 4 }),
		"keep others":  changed(func(p *Policy) { p.Others = Keep }),
		"keep strange": changed(func(p *Policy) { p.Strange = Keep }),
		"no others":    changed(func(p *Policy) { p.Others = 0 }),
		"no strange":   changed(func(p *Policy) { p.Strange = 0 }),
		"keep script":  changed(func(p *Policy) { p.Rules[3].Name = "script" }),
		"keep image":   changed(func(p *Policy) { p.Rules[3].Name = "image" }),
		"great scheme": changed(func(p *Policy) { p.Schemes[1] = "S" }),
		"empty scheme": changed(func(p *Policy) { p.Schemes[1] = "" }),
	}
}

// hold asks for what Check tells, and that the policy is as it was.
func hold(t *testing.T, what string, p Policy, want api.Errno) {
	t.Helper()
	was := wholePolicy(p)
	for range 2 {
		if e := Check(p); e != want {
			t.Errorf("%s: %v; want %v", what, e, want)
		}
	}
	if wholePolicy(p) != was {
		t.Errorf("%s: the policy was changed", what)
	}
}

// Promise 16.1: policies that are right.
func TestRight(t *testing.T) {
	hold(t, "plain", Plain(), api.OK)
	hold(t, "small", small(), api.OK)
	for _, others := range []int{Open, Drop} {
		for _, strange := range []int{Open, Drop} {
			hold(t, "no rules", Policy{Others: others, Strange: strange}, api.OK)
			hold(t, "empty lists", Policy{Rules: []Rule{}, Schemes: []string{}, Others: others, Strange: strange}, api.OK)
			hold(t, "empty lists of a rule", Policy{Rules: []Rule{{Name: "a", Act: Keep, Attrs: []string{}, Links: []string{}}}, Others: others, Strange: strange}, api.OK)
		}
	}
	hold(t, "a scheme twice", changed(func(p *Policy) { p.Schemes = []string{"s", "s"} }), api.OK)
	hold(t, "a name in two rules", changed(func(p *Policy) { p.Rules[3].Attrs, p.Rules[3].Links = []string{"l"}, []string{"a"} }), api.OK)
	hold(t, "an element's name as an attribute's", changed(func(p *Policy) { p.Rules[3].Attrs = []string{"k", "x"} }), api.OK)
	for name, p := range wrong() {
		if Check(p) == api.OK {
			t.Errorf("%s: it is right", name)
		}
	}
}

// Promise 16.1: just as many, and one more.
func TestLong(t *testing.T) {
	hold(t, "60 rules", changed(func(p *Policy) { p.Rules = rules(60) }), api.OK)
	hold(t, "61 rules", changed(func(p *Policy) { p.Rules = rules(61) }), api.ErrLong)
	hold(t, "1000 rules", changed(func(p *Policy) { p.Rules = rules(1000) }), api.ErrLong)
	hold(t, "20 schemes", changed(func(p *Policy) { p.Schemes = names("s", 20) }), api.OK)
	hold(t, "21 schemes", changed(func(p *Policy) { p.Schemes = names("s", 21) }), api.ErrLong)
	for i := range small().Rules {
		hold(t, "20 attributes", changed(func(p *Policy) { p.Rules[i].Attrs = names("n", 20) }), api.OK)
		hold(t, "21 attributes", changed(func(p *Policy) { p.Rules[i].Attrs = names("n", 21) }), api.ErrLong)
		hold(t, "20 links", changed(func(p *Policy) { p.Rules[i].Links = names("n", 20) }), api.OK)
		hold(t, "21 links", changed(func(p *Policy) { p.Rules[i].Links = names("n", 21) }), api.ErrLong)
		hold(t, "20 of both", changed(func(p *Policy) { p.Rules[i].Attrs, p.Rules[i].Links = names("n", 20), names("o", 20) }), api.OK)
	}
	whole := changed(func(p *Policy) {
		p.Rules, p.Schemes = rules(60), names("s", 20)
		for i := range p.Rules {
			p.Rules[i].Attrs, p.Rules[i].Links = names("n", 20), names("o", 20)
		}
	})
	hold(t, "all that may be", whole, api.OK)
	whole.Rules[59].Links = names("o", 21)
	hold(t, "one more in the last rule", whole, api.ErrLong)
}

// Promise 16.1: two rules of one Name; a name twice in Attrs, twice in Links, and in both.
func TestSame(t *testing.T) {
	for i := range 4 {
		for k := range i {
			hold(t, "one Name", changed(func(p *Policy) { p.Rules[i].Name = p.Rules[k].Name }), api.ErrSame)
		}
		set := func(attrs, links []string) Policy {
			return changed(func(p *Policy) { p.Rules[i].Attrs, p.Rules[i].Links = attrs, links })
		}
		hold(t, "twice in Attrs", set([]string{"a", "b", "a"}, nil), api.ErrSame)
		hold(t, "twice in Links", set(nil, []string{"a", "b", "b"}), api.ErrSame)
		hold(t, "in both", set([]string{"a", "b"}, []string{"c", "a"}), api.ErrSame)
		hold(t, "in both, the last ones", set(append(names("n", 19), "a"), append(names("o", 19), "a")), api.ErrSame)
		hold(t, "no names, twice", set([]string{"", ""}, nil), api.ErrSame)
		hold(t, "nearly one name", set([]string{"a", "aa"}, []string{"a-", "a:"}), api.OK)
	}
	last := changed(func(p *Policy) { p.Rules = rules(60); p.Rules[59].Name = "n0" })
	hold(t, "the first and the last of 60", last, api.ErrSame)
	hold(t, "two without a Name", changed(func(p *Policy) { p.Rules = make([]Rule, 2) }), api.ErrSame)
}

// Promise 16.1: names that are no names, whatever is done by their rule.
func TestNames(t *testing.T) {
	for i := range 4 {
		for _, name := range noNames() {
			hold(t, "Name", changed(func(p *Policy) { p.Rules[i].Name = name }), api.ErrForm)
			hold(t, "Attrs", changed(func(p *Policy) { p.Rules[i].Attrs = []string{"a", name} }), api.ErrForm)
			hold(t, "Links", changed(func(p *Policy) { p.Rules[i].Links = []string{name, "l"} }), api.ErrForm)
		}
		for _, name := range []string{"c", "xlink:href", "a-", "h9", strings.Repeat("z", api.MaxName)} {
			hold(t, "Name", changed(func(p *Policy) { p.Rules[i].Name = name }), api.OK)
			hold(t, "Attrs", changed(func(p *Policy) { p.Rules[i].Attrs = []string{name} }), api.OK)
			hold(t, "Links", changed(func(p *Policy) { p.Rules[i].Links = []string{name} }), api.OK)
		}
	}
}

// Promise 16.1: acts that are none; Others and Strange that are Keep.
func TestActs(t *testing.T) {
	for _, act := range []int{0, 4, -1, 255, 256, 257, 1 << 32, 1<<32 + 1, -1 << 63} {
		for i := range 4 {
			hold(t, "Act", changed(func(p *Policy) { p.Rules[i].Act = act }), api.ErrForm)
		}
		hold(t, "Others", changed(func(p *Policy) { p.Others = act }), api.ErrForm)
		hold(t, "Strange", changed(func(p *Policy) { p.Strange = act }), api.ErrForm)
	}
	for _, act := range []int{Keep, Open, Drop} {
		want := api.OK
		if act == Keep {
			want = api.ErrForm
		}
		for i := range 4 {
			hold(t, "Act", changed(func(p *Policy) { p.Rules[i].Act = act }), api.OK)
		}
		hold(t, "Others", changed(func(p *Policy) { p.Others = act }), want)
		hold(t, "Strange", changed(func(p *Policy) { p.Strange = act }), want)
	}
}

// unkept are the names that no rule may keep.
func unkept() []string {
	return strings.Fields("script style title textarea xmp html head body frame frameset math svg image")
}

// Promise 16.1: a rule to Keep what may not be kept; all others may.
func TestUnkept(t *testing.T) {
	all := append(unkept(), strings.Fields("caption tbody thead tr td th table blockquote div ol section ul p h1 h2 h3 pre li a b code em i strong u br img input wbr hr font images foreignobject mi desc h4 noscript iframe plaintext listing")...)
	for _, name := range all {
		for i := range 4 {
			for _, act := range []int{Keep, Open, Drop} {
				want := api.OK
				if act == Keep && slices.Contains(unkept(), name) {
					want = api.ErrForm
				}
				hold(t, name, changed(func(p *Policy) { p.Rules[i].Name, p.Rules[i].Act = name, act }), want)
			}
		}
	}
}

// Promise 16.1: schemes that are empty or not small.
func TestSchemes(t *testing.T) {
	for _, s := range []string{"", "S", "hTtp", "httpS", "\xffA", "a:B"} {
		hold(t, s, changed(func(p *Policy) { p.Schemes = []string{s} }), api.ErrForm)
		hold(t, s, changed(func(p *Policy) { p.Schemes = append(names("s", 19), s) }), api.ErrForm)
		hold(t, s, changed(func(p *Policy) { p.Schemes = append([]string{s}, names("s", 19)...) }), api.ErrForm)
	}
	// Any other text is its own small form, be it a scheme or not.
	for _, s := range []string{"s", "t1+-.", "1", ":", "a:", " ", "\n", "\x00", "\xff", "\xc3\x89", "\u212a", "[", "@", strings.Repeat("s", 100000)} {
		hold(t, s, changed(func(p *Policy) { p.Schemes = []string{s} }), api.OK)
	}
}

// Promise 16.1: where several errors would be told: too much, then twice the same, then all else, wherever they are.
func TestOrder(t *testing.T) {
	longs := []func(p *Policy){
		func(p *Policy) { p.Rules = append(p.Rules, rules(60)...) },
		func(p *Policy) { p.Schemes = append(p.Schemes, names("s", 21)...) },
		func(p *Policy) { p.Rules[3].Attrs = append(p.Rules[3].Attrs, names("q", 21)...) },
		func(p *Policy) { p.Rules[3].Links = append(p.Rules[3].Links, names("q", 21)...) },
	}
	sames := []func(p *Policy){
		func(p *Policy) { p.Rules[1].Name = p.Rules[0].Name },
		func(p *Policy) { p.Rules[2].Attrs = []string{"a", "a"} },
		func(p *Policy) { p.Rules[2].Links = []string{"a", "a"} },
		func(p *Policy) { p.Rules[3].Attrs, p.Rules[3].Links = []string{"a"}, []string{"a"} },
	}
	forms := []func(p *Policy){
		func(p *Policy) { p.Rules[0].Name = "X" },
		func(p *Policy) { p.Rules[0].Attrs = []string{"A"} },
		func(p *Policy) { p.Rules[0].Links = []string{""} },
		func(p *Policy) { p.Rules[0].Act = 0 },
		func(p *Policy) { p.Rules[0].Name = "svg" },
		func(p *Policy) { p.Others = Keep },
		func(p *Policy) { p.Strange = 9 },
		func(p *Policy) { p.Schemes[0] = "" },
	}
	for i, form := range forms {
		hold(t, fmt.Sprint("form ", i), changed(form), api.ErrForm)
		for k, same := range sames {
			hold(t, fmt.Sprint("same ", k), changed(same), api.ErrSame)
			both := func(p *Policy) { form(p); same(p) }
			hold(t, fmt.Sprint("form ", i, ", same ", k), changed(both), api.ErrSame)
			for m, long := range longs {
				hold(t, fmt.Sprint("form ", i, ", long ", m), changed(func(p *Policy) { form(p); long(p) }), api.ErrLong)
				hold(t, fmt.Sprint("form ", i, ", same ", k, ", long ", m), changed(func(p *Policy) { both(p); long(p) }), api.ErrLong)
			}
		}
	}
}

// plainCheck is Check as the chapter tells it.
func plainCheck(p Policy) api.Errno {
	long, same := len(p.Rules) > 60 || len(p.Schemes) > 20, false
	form := p.Others != 2 && p.Others != 3 || p.Strange != 2 && p.Strange != 3
	for _, s := range p.Schemes {
		form = form || s == "" || strings.ContainsAny(s, "ABCDEFGHIJKLMNOPQRSTUVWXYZ")
	}
	for i, r := range p.Rules {
		long = long || len(r.Attrs) > 20 || len(r.Links) > 20
		form = form || !pen.Name(r.Name) || r.Act < 1 || r.Act > 3 || r.Act == 1 && slices.Contains(unkept(), r.Name)
		for _, other := range p.Rules[:i] {
			same = same || other.Name == r.Name
		}
		both := append(slices.Clone(r.Attrs), r.Links...)
		for k, name := range both {
			form = form || !pen.Name(name)
			same = same || slices.Contains(both[:k], name)
		}
	}
	switch {
	case long:
		return api.ErrLong
	case same:
		return api.ErrSame
	case form:
		return api.ErrForm
	}
	return api.OK
}

// Promise 16.1: policies by chance, held against the chapter's telling.
func TestCheckByChance(t *testing.T) {
	r := rand.New(rand.NewSource(61))
	one := func(odds int, usual, other string) string {
		if r.Intn(odds) == 0 {
			usual = other
		}
		l := strings.Split(usual, " ")
		return l[r.Intn(len(l))]
	}
	some := func(n int, begin string) []string {
		l := names(begin, r.Intn(n))
		for i := range l {
			l[i] = one(150, l[i], "a a0 b A  image \xff")
		}
		return l
	}
	counts := map[api.Errno]int{}
	for range 20000 {
		p := Policy{Rules: rules(r.Intn(5)), Schemes: some(22, "s"), Others: 2 + r.Intn(2), Strange: 2 + r.Intn(2)}
		for i := range p.Rules {
			x := &p.Rules[i]
			x.Name = one(15, x.Name, "n0 n1 svg image p X  title")
			x.Act = 1 + r.Intn(3)
			x.Attrs, x.Links = some(4, "a"), some(4, "l")
			if r.Intn(30) == 0 {
				x.Attrs = some(24, "b")
			}
			if r.Intn(50) == 0 {
				x.Act = r.Intn(6) - 1
			}
		}
		if r.Intn(20) == 0 {
			p.Others, p.Strange = r.Intn(5), r.Intn(5)
		}
		want := plainCheck(p)
		counts[want]++
		hold(t, fmt.Sprint(p), p, want)
	}
	for _, e := range []api.Errno{api.OK, api.ErrLong, api.ErrSame, api.ErrForm} {
		if counts[e] < 300 {
			t.Errorf("just %d policies are %v", counts[e], e)
		}
	}
}
