package store

import (
	"slices"

	"jigsaw/api"
	"jigsaw/dom"
	"jigsaw/kinds"
	"jigsaw/sets"
)

// wholeDom is a domain of a whole number, setDom one of a set: how they are made smaller is each one's own.
type (
	wholeDom api.Dom
	setDom   api.Dom
)

// with is the values that are in d, too.
func (w wholeDom) with(d api.Dom) api.Dom {
	return api.Dom{R: dom.Both(w.R, d.R)}
}

// with is the sets that are in d, too.
func (s setDom) with(d api.Dom) api.Dom {
	return sets.Both(api.Dom(s), d)
}

// narrower is how a domain is made smaller by another one of its kind.
func narrower(d api.Dom) func(api.Dom) api.Dom {
	if d.Set {
		return setDom(d).with
	}
	return wholeDom(d).with
}

// tight is a domain that can be, with memory of its own; one of a set is made tight by what is in both it and itself.
func tight(d api.Dom) api.Dom {
	return narrower(d)(d)
}

// emptiness is 1 of an empty domain that can be, else 0.
func emptiness(d api.Dom) int {
	if kinds.Empty(d) {
		return 1
	}
	return 0
}

// change is what happened to a domain that became smaller, and not empty.
func change(old, next api.Dom) int {
	if _, ok := kinds.Only(next); ok {
		return Fixed
	}
	if !sameBounds(old, next) {
		return Bounds
	}
	return Inside
}

func sameBounds(a, b api.Dom) bool {
	if a.Set {
		return slices.Equal(a.Lo, b.Lo) && a.Least == b.Least && a.Most == b.Most
	}
	return a.R[0].Lo == b.R[0].Lo && a.R[len(a.R)-1].Hi == b.R[len(b.R)-1].Hi
}
