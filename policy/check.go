package policy

import (
	"slices"

	"recto/api"
	"recto/chars"
	"recto/pen"
	"recto/tags"
)

// How many names a policy's lists have at most.
const (
	mostSchemes = 20
	mostNames   = 20
)

// demand is one that a right policy meets, beside the error of a policy that does not.
type demand struct {
	isMet func(p Policy) bool
	err   api.Errno
}

// demands are all of them. Their order says which error is told where several would be.
func demands() []demand {
	return []demand{
		{isShort, api.ErrLong},
		{hasRulesOnce, api.ErrSame},
		{ofEachRule(hasNamesOnce), api.ErrSame},
		{ofEachRule(hasNames), api.ErrForm},
		{ofEachRule(hasAct), api.ErrForm},
		{ofEachRule(mayBeKept), api.ErrForm},
		{removesOthers, api.ErrForm},
		{hasSmallSchemes, api.ErrForm},
	}
}

// ofEachRule is a demand on a policy that each of its rules must meet.
func ofEachRule(isMet func(r Rule) bool) func(p Policy) bool {
	return func(p Policy) bool {
		for _, r := range p.Rules {
			if !isMet(r) {
				return false
			}
		}
		return true
	}
}

func isShort(p Policy) bool {
	hasFew := ofEachRule(func(r Rule) bool { return len(r.Attrs) <= mostNames && len(r.Links) <= mostNames })
	return len(p.Rules) <= Most && len(p.Schemes) <= mostSchemes && hasFew(p)
}

func hasRulesOnce(p Policy) bool {
	var names []string
	for _, r := range p.Rules {
		names = append(names, r.Name)
	}
	return !hasTwice(names)
}

func hasNamesOnce(r Rule) bool {
	return !hasTwice(slices.Concat(r.Attrs, r.Links))
}

func hasNames(r Rule) bool {
	isNone := func(name string) bool { return !pen.Name(name) }
	return pen.Name(r.Name) && !slices.ContainsFunc(r.Attrs, isNone) && !slices.ContainsFunc(r.Links, isNone)
}

func hasAct(r Rule) bool {
	return r.Act == Keep || removes(r.Act)
}

// mayBeKept tells whether a rule does not keep what is read in ways of its own: as raw text, as another space or another name, or not at all.
func mayBeKept(r Rule) bool {
	if r.Act != Keep {
		return true
	}
	switch tags.Group(r.Name) {
	case tags.Raw, tags.Title, tags.Area, tags.Listing, tags.Shell, tags.Foreign:
		return false
	}
	return r.Name != "image"
}

func removesOthers(p Policy) bool {
	return removes(p.Others) && removes(p.Strange)
}

func hasSmallSchemes(p Policy) bool {
	for _, s := range p.Schemes {
		if s == "" || chars.Lower(s) != s {
			return false
		}
	}
	return true
}

// removes tells whether it is an act by which an element does not stay.
func removes(act int) bool {
	return act == Open || act == Drop
}

// hasTwice tells whether a name stands twice in a list. It is asked of short lists alone, as isShort comes first.
func hasTwice(names []string) bool {
	for i, name := range names {
		if slices.Contains(names[:i], name) {
			return true
		}
	}
	return false
}
