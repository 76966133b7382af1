package count

import (
	"slices"

	"jigsaw/api"
	"jigsaw/dom"
	"jigsaw/family"
)

// tally is how many of the terms have one of some values.
type tally struct {
	terms  []api.Term
	values []int64
	in     []api.Range // these values
}

// tallyOf is the tally of a set, or of one number. If that is beyond Big, no term has it, and the ranges are none.
func tallyOf(terms []api.Term, values []int64) tally {
	in, _ := dom.Of(values...)
	return tally{terms, values, in}
}

// of is the tally of the terms' values.
func (c tally) of(v []api.Val) int64 {
	n := int64(0)
	for _, x := range family.Numbers(c.terms, v) {
		if slices.Contains(c.values, x) {
			n++
		}
	}
	return n
}

// certain: does a term have one of the values, whatever it is?
func (c tally) certain(d *family.Doms, t api.Term) bool {
	return dom.Within(d.Get(t).R, c.in)
}

// possible: may a term have one of the values?
func (c tally) possible(d *family.Doms, t api.Term) bool {
	return len(dom.Both(c.in, d.Get(t).R)) > 0
}

// bounds is the least and the most that the tally may be.
func (c tally) bounds(d *family.Doms) (least, most int64) {
	for _, t := range c.terms {
		if c.certain(d, t) {
			least++
		}
		if c.possible(d, t) {
			most++
		}
	}
	return least, most
}

// limit lets the tally be from least to most. If it is the most already by what is certain, no other term has one of the values; if it is the least only by all that is possible, all of that is so.
func (c tally) limit(d *family.Doms, least, most int64) {
	sure, may := c.bounds(d)
	if sure > most || may < least {
		d.Fail()
		return
	}
	for _, t := range c.terms {
		switch {
		case c.certain(d, t) || !c.possible(d, t):
		case sure == most:
			d.Leave(t, c.values)
		case may == least:
			d.Keep(t, api.Dom{R: c.in})
		}
	}
}

// within says that the tally is from least to most.
type within struct {
	tally
	least, most int64
}

// Holds: does it hold of values?
func (c within) Holds(v []api.Val) bool {
	n := c.of(v)
	return c.least <= n && n <= c.most
}

// Narrow takes away what can not be.
func (c within) Narrow(d *family.Doms) {
	c.limit(d, c.least, c.most)
}

// among says that the tally is n.
type among struct {
	tally
	n api.Term
}

// Holds: does it hold of values?
func (c among) Holds(v []api.Val) bool {
	return c.of(v) == family.Number(c.n, v)
}

// Narrow takes away what can not be.
func (c among) Narrow(d *family.Doms) {
	least, most := c.bounds(d)
	d.Cut(c.n, least, most)
	least, most = d.Bounds(c.n)
	c.limit(d, least, most)
}

// times says that y stands n times among the terms.
type times struct {
	terms []api.Term
	y, n  api.Term
}

// at is what it says of one value of y.
func (c times) at(y int64) among {
	return among{tallyOf(c.terms, []int64{y}), c.n}
}

// Holds: does it hold of values?
func (c times) Holds(v []api.Val) bool {
	return c.at(family.Number(c.y, v)).Holds(v)
}

// Narrow takes away what can not be. Of a y with many values nothing is asked but that n can be so many at all.
func (c times) Narrow(d *family.Doms) {
	d.Cut(c.n, 0, int64(len(c.terms)))
	if dom.Size(d.Get(c.y).R) <= api.MaxScan {
		c.compare(d)
	}
	if y, ok := d.Fixed(c.y); ok {
		c.at(y).Narrow(d)
	}
}

// compare leaves y just the values that stand among the terms as often as n may be, and n nothing that is less or more than all of them do.
func (c times) compare(d *family.Doms) {
	o := oftenOf(d, c.terms, slices.Collect(dom.Each(d.Get(c.y).R)))
	n := d.Get(c.n).R
	var good []int64
	least, most := int64(len(c.terms)), int64(0)
	for i, y := range o.values {
		if next, ok := dom.Next(n, o.sure[i]); !ok || next > o.may[i] {
			continue
		}
		good = append(good, y)
		least, most = min(least, o.sure[i]), max(most, o.may[i])
	}
	d.KeepOnly(c.y, good)
	d.Cut(c.n, least, most)
}
