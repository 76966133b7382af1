package store

import (
	"slices"

	"jigsaw/api"
	"jigsaw/dom"
	"jigsaw/sets"
)

// wholeDom is a domain of a whole number, setDom one of a set: how they are made smaller is each one's own.
type (
	wholeDom api.Dom
	setDom   api.Dom
)

// with is the values that are in d, too.
func (w wholeDom) with(d api.Dom) api.Dom {
	return api.Dom{R: dom.Both(w.R, d.R)}
}

// with is the sets that are in d, too.
func (s setDom) with(d api.Dom) api.Dom {
	return sets.Both(api.Dom(s), d)
}

// narrower is how a domain is made smaller by another one of its kind.
func narrower(d api.Dom) func(api.Dom) api.Dom {
	if d.Set {
		return setDom(d).with
	}
	return wholeDom(d).with
}

// canBe: is it a domain that can be?
func canBe(d api.Dom) bool {
	if d.Set {
		return sets.Right(d)
	}
	return dom.Right(d.R) && len(d.Lo) == 0 && len(d.Up) == 0 && d.Least == 0 && d.Most == 0
}

// tight is a domain that can be, with memory of its own; one of a set is made tight by what is in both it and itself.
func tight(d api.Dom) api.Dom {
	return narrower(d)(d)
}

// copied is a domain as it is, with memory of its own.
func copied(d api.Dom) api.Dom {
	d.R, d.Lo, d.Up = slices.Clone(d.R), slices.Clone(d.Lo), slices.Clone(d.Up)
	return d
}

// emptiness is 1 of an empty domain that can be, else 0.
func emptiness(d api.Dom) int {
	if d.Set && d.Least > d.Most || !d.Set && len(d.R) == 0 {
		return 1
	}
	return 0
}

// same: have two domains of one kind the same values?
func same(a, b api.Dom) bool {
	if a.Set {
		return sets.Same(a, b)
	}
	return dom.Same(a.R, b.R)
}

// only is the only value; false, if there is none, or there are several.
func only(d api.Dom) (api.Val, bool) {
	if d.Set {
		l, ok := sets.Fixed(d)
		return api.Val{Set: ok, S: l}, ok
	}
	if dom.Size(d.R) != 1 {
		return api.Val{}, false
	}
	return api.Val{N: d.R[0].Lo}, true
}

// change is what happened to a domain that became smaller, and not empty.
func change(old, next api.Dom) int {
	if _, ok := only(next); ok {
		return Fixed
	}
	if !sameBounds(old, next) {
		return Bounds
	}
	return Inside
}

func sameBounds(a, b api.Dom) bool {
	if a.Set {
		return slices.Equal(a.Lo, b.Lo) && a.Least == b.Least && a.Most == b.Most
	}
	return a.R[0].Lo == b.R[0].Lo && a.R[len(a.R)-1].Hi == b.R[len(b.R)-1].Hi
}
