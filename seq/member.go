package seq

import (
	"slices"

	"jigsaw/api"
	"jigsaw/dom"
	"jigsaw/family"
)

// member says that y is one of the terms.
type member struct {
	terms []api.Term
	y     api.Term
}

// Holds: does it hold of values?
func (c member) Holds(v []api.Val) bool {
	return slices.Contains(family.Numbers(c.terms, v), family.Number(c.y, v))
}

// Narrow leaves y what one of the terms can be; if there is but one that it can be, both are the same.
func (c member) Narrow(d *family.Doms) {
	var some []api.Term
	for _, t := range c.terms {
		if len(dom.Both(d.Get(t).R, d.Get(c.y).R)) > 0 {
			some = append(some, t)
		}
	}
	d.KeepSome(c.y, some)
	if len(some) == 1 {
		d.Keep(some[0], d.Get(c.y))
		d.Keep(c.y, d.Get(some[0]))
	}
}

// extreme says that y is the greatest of the terms, or (not top) the least.
type extreme struct {
	member
	top bool
}

// pick is the one of two numbers that counts.
func (c extreme) pick(a, b int64) int64 {
	if c.top {
		return max(a, b)
	}
	return min(a, b)
}

// Holds: does it hold of values?
func (c extreme) Holds(v []api.Val) bool {
	l := family.Numbers(c.terms, v)
	n := l[0]
	for _, x := range l {
		n = c.pick(n, x)
	}
	return n == family.Number(c.y, v)
}

// Narrow takes away what can not be: y is one of the terms, and none goes beyond it.
func (c extreme) Narrow(d *family.Doms) {
	lo, hi := d.Bounds(c.terms[0])
	for _, t := range c.terms {
		least, most := d.Bounds(t)
		lo, hi = c.pick(lo, least), c.pick(hi, most)
	}
	d.Cut(c.y, lo, hi)
	lo, hi = d.Bounds(c.y)
	for _, t := range c.terms {
		if c.top {
			d.Cut(t, -api.Big, hi)
		} else {
			d.Cut(t, lo, api.Big)
		}
	}
	c.member.Narrow(d)
}
