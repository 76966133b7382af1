package logic

import (
	"slices"

	"jigsaw/api"
	"jigsaw/cons"
	"jigsaw/family"
)

// clause says that one of p is 1, or one of n is 0.
type clause struct {
	p, n []api.Term
}

// some asks part by part, until it is so of one of them. A part is a term, and the number with which the clause holds.
func (c clause) some(so func(t api.Term, want int64) bool) bool {
	return slices.ContainsFunc(c.p, func(t api.Term) bool { return so(t, 1) }) ||
		slices.ContainsFunc(c.n, func(t api.Term) bool { return so(t, 0) })
}

// Holds: does it hold of values?
func (c clause) Holds(v []api.Val) (bool, api.Errno) {
	return c.some(func(t api.Term, want int64) bool {
		x, _ := cons.Of(t, v)
		return x.N == want
	}), api.OK
}

// Enforce takes away what can not be.
func (c clause) Enforce(d *family.Doms, so bool) {
	if so {
		c.unit(d)
		return
	}
	c.some(func(t api.Term, want int64) bool {
		d.Cut(t, 1-want, 1-want)
		return false
	})
}

// unit gives the last part that can be as the clause wants it the number that it wants, unless a part is so already, or there are several such parts.
func (c clause) unit(d *family.Doms) {
	left, wanted := -1, int64(0)
	enough := c.some(func(t api.Term, want int64) bool {
		lo, hi := d.Bounds(t)
		if lo == hi {
			return lo == want
		}
		if left < 0 {
			left, wanted = t.Var, want
		}
		return t.Var != left || want != wanted
	})
	switch {
	case enough:
	case left < 0:
		d.Fail()
	default:
		d.Cut(cons.Var(left), wanted, wanted)
	}
}

// opposite holds just where a clause does not: that all are 1 is the opposite of that one is 0.
type opposite struct {
	of clause
}

// Holds: does it hold of values?
func (o opposite) Holds(v []api.Val) (bool, api.Errno) {
	ok, e := o.of.Holds(v)
	return !ok, e
}

// Enforce takes away what can not be.
func (o opposite) Enforce(d *family.Doms, so bool) {
	o.of.Enforce(d, !so)
}
