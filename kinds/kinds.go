// Package kinds has what is asked of domains and of values whatever their kind is: of whole numbers as package dom has it, of sets as package sets.
package kinds

import (
	"slices"

	"jigsaw/api"
	"jigsaw/dom"
	"jigsaw/sets"
)

// RightVal: is it a value that can be?
func RightVal(v api.Val) bool {
	if v.Set {
		return v.N == 0 && sets.Set(v.S)
	}
	return -api.Big <= v.N && v.N <= api.Big && len(v.S) == 0
}

// Right: is it a domain that can be?
func Right(d api.Dom) bool {
	if d.Set {
		return sets.Right(d)
	}
	return dom.Right(d.R) && len(d.Lo) == 0 && len(d.Up) == 0 && d.Least == 0 && d.Most == 0
}

// Empty: has a domain that can be no values?
func Empty(d api.Dom) bool {
	return d.Set && d.Least > d.Most || !d.Set && len(d.R) == 0
}

// Copy is a domain as it is, with memory of its own, even if it can not be.
func Copy(d api.Dom) api.Dom {
	d.R, d.Lo, d.Up = slices.Clone(d.R), slices.Clone(d.Lo), slices.Clone(d.Up)
	return d
}

// Both is the values that are in both of two domains of one kind that can be; of sets made tight.
func Both(a, b api.Dom) api.Dom {
	if a.Set {
		return sets.Both(a, b)
	}
	return api.Dom{R: dom.Both(a.R, b.R)}
}

// Has: is v, a value of its kind that can be, one of a domain's?
func Has(d api.Dom, v api.Val) bool {
	if d.Set {
		return sets.Has(d, v.S)
	}
	return dom.Has(d.R, v.N)
}

// Same: have two domains of one kind the same values?
func Same(a, b api.Dom) bool {
	if a.Set {
		return sets.Same(a, b)
	}
	return dom.Same(a.R, b.R)
}

// Size is how many values a domain has; of sets 2^62, if there are more.
func Size(d api.Dom) int64 {
	if d.Set {
		return sets.Count(d)
	}
	return dom.Size(d.R)
}

// Only is the only value; false, if there is none, or there are several.
func Only(d api.Dom) (api.Val, bool) {
	if d.Set {
		l, ok := sets.Fixed(d)
		return api.Val{Set: ok, S: l}, ok
	}
	if dom.Size(d.R) != 1 {
		return api.Val{}, false
	}
	return api.Val{N: d.R[0].Lo}, true
}
