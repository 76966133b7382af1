package sched

import (
	"iter"

	"jigsaw/api"
	"jigsaw/dom"
	"jigsaw/family"
)

// world is what a constraint is asked of: values, or domains.
type world interface {
	// bounds is the least and the greatest number that a term may be.
	bounds(t api.Term) (lo, hi int64)
	// within is the numbers from lo to hi that a term may be, rising.
	within(t api.Term, lo, hi int64) iter.Seq[int64]
}

// values is a world in which each term is one number.
type values []api.Val

func (v values) bounds(t api.Term) (lo, hi int64) {
	n := family.Number(t, v)
	return n, n
}

func (v values) within(t api.Term, lo, hi int64) iter.Seq[int64] {
	return func(yield func(int64) bool) {
		if n := family.Number(t, v); lo <= n && n <= hi {
			yield(n)
		}
	}
}

// domains is a world in which a term may be several numbers, and from which some can be taken.
type domains struct {
	*family.Doms
}

func (d domains) bounds(t api.Term) (lo, hi int64) {
	return d.Bounds(t)
}

func (d domains) within(t api.Term, lo, hi int64) iter.Seq[int64] {
	return dom.Each(dom.Cut(d.Get(t).R, lo, hi))
}

// scheme is what a constraint says.
type scheme interface {
	// can: may it hold, by what is known of the terms? Of values all is known: so then, does it hold?
	can(w world) bool
	// narrow takes away what can not be; it may.
	narrow(d domains)
}

// ask asks a constraint if it may hold. From domains it takes what can not be ahead of that, so that by what is left it may hold, too.
func ask(s scheme, w world) bool {
	switch w := w.(type) {
	case domains:
		if s.can(w) {
			s.narrow(w)
		}
	case values: // there is nothing to take away
	}
	return s.can(w)
}

// asked is a constraint as package family asks it.
type asked struct {
	scheme
}

// Holds: does it hold of values?
func (a asked) Holds(v []api.Val) bool {
	return ask(a.scheme, values(v))
}

// Narrow takes away what can not be.
func (a asked) Narrow(d *family.Doms) {
	if !ask(a.scheme, domains{d}) {
		d.Fail()
	}
}

// atLeast0 is the bounds of a term that is not to be below 0; false, if it can not but be.
func atLeast0(w world, t api.Term) (lo, hi int64, ok bool) {
	lo, hi = w.bounds(t)
	return max(lo, 0), hi, hi >= 0
}

// keepFrom0 takes from terms what is below 0.
func keepFrom0(d domains, terms ...api.Term) {
	for _, t := range terms {
		d.Cut(t, 0, api.Big)
	}
}
