package seq

import (
	"slices"

	"jigsaw/api"
	"jigsaw/dom"
	"jigsaw/family"
)

// rising says that each term is at least the one ahead and a step.
type rising struct {
	terms []api.Term
	step  int64
}

// Holds: does it hold of values?
func (c rising) Holds(v []api.Val) bool {
	l := family.Numbers(c.terms, v)
	for i, n := range l {
		if i > 0 && n < l[i-1]+c.step {
			return false
		}
	}
	return true
}

// Narrow takes from each term what is too small for those ahead, and what is too great for those behind.
func (c rising) Narrow(d *family.Doms) {
	if family.Twice(c.terms) {
		c.level(d)
	}
	least := int64(-api.Big)
	for _, t := range c.terms {
		d.Cut(t, least, api.Big)
		lo, _ := d.Bounds(t)
		least = lo + c.step
	}
	most := int64(api.Big)
	for _, t := range slices.Backward(c.terms) {
		d.Cut(t, -api.Big, most)
		_, hi := d.Bounds(t)
		most = hi - c.step
	}
}

// level is for variables that stand twice: from the first place of one to its last, all terms are the same; with a step that can not be. (By their bounds alone this would be found value by value.)
func (c rising) level(d *family.Doms) {
	if c.step > 0 {
		d.Fail()
		return
	}
	last := map[int]int{}
	for i, t := range c.terms {
		last[t.Var] = i
	}
	for i := 0; i < len(c.terms); {
		end := i
		for k := i; k <= end; k++ {
			if t := c.terms[k]; t.Var >= 0 {
				end = max(end, last[t.Var])
			}
		}
		d.KeepCommon(c.terms[i : end+1])
		i = end + 1
	}
}

// sorted says that y is the values of x, rising.
type sorted struct {
	x, y []api.Term
}

// Holds: does it hold of values?
func (c sorted) Holds(v []api.Val) bool {
	l := family.Numbers(c.x, v)
	slices.Sort(l)
	return slices.Equal(l, family.Numbers(c.y, v))
}

// Narrow takes away what can not be: the k-th of y is from the k-th of the least values of x, sorted, to the k-th of the greatest ones.
func (c sorted) Narrow(d *family.Doms) {
	lend(d, c.x, c.y)
	least, most := bounds(d, c.x)
	slices.Sort(least)
	slices.Sort(most)
	for i, t := range c.y {
		d.Cut(t, least[i], most[i])
	}
	rising{terms: c.y}.Narrow(d)
	lend(d, c.y, c.x)
}

// mostRanges is how many ranges are put in order at most, to find what some terms can be.
const mostRanges = 16 * api.MaxRanges

// lend leaves each of y what one of x can be. (Where that would come to too many ranges, nothing goes.)
func lend(d *family.Doms, x, y []api.Term) {
	var all []api.Range
	for _, t := range x {
		all = append(all, d.Get(t).R...)
	}
	if len(all) > mostRanges {
		return
	}
	some, e := dom.Norm(all)
	if e != api.OK {
		return
	}
	for _, t := range y {
		d.Keep(t, api.Dom{R: some})
	}
}

// bounds is the least and the greatest value of each of some terms.
func bounds(d *family.Doms, terms []api.Term) (least, most []int64) {
	for _, t := range terms {
		lo, hi := d.Bounds(t)
		least, most = append(least, lo), append(most, hi)
	}
	return least, most
}
