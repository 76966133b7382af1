package logic

import (
	"slices"

	"jigsaw/api"
	"jigsaw/cons"
	"jigsaw/family"
)

// parity says that an odd number of terms are 1.
type parity struct {
	terms []api.Term
}

// Holds: does it hold of values?
func (p parity) Holds(v []api.Val) (bool, api.Errno) {
	odd := false
	for _, t := range p.terms {
		x, _ := cons.Of(t, v)
		odd = odd != (x.N == 1)
	}
	return odd, api.OK
}

// Enforce gives the only variable on which it hangs the number with which it is so.
func (p parity) Enforce(d *family.Doms, so bool) {
	odd, open := p.known(d)
	switch missing := odd != so; {
	case len(open) == 0 && missing:
		d.Fail()
	case len(open) == 1 && missing:
		d.Cut(cons.Var(open[0]), 1, 1)
	case len(open) == 1:
		d.Cut(cons.Var(open[0]), 0, 0)
	}
}

// known tells if an odd number of the terms that are known are 1, and which variables it hangs on beside them. One that stands an even number of times plays no part.
func (p parity) known(d *family.Doms) (bool, []int) {
	odd := false
	var vars []int
	for _, t := range p.terms {
		lo, hi := d.Bounds(t)
		if lo < hi {
			vars = append(vars, t.Var)
		} else {
			odd = odd != (lo == 1)
		}
	}
	slices.Sort(vars)
	var open []int
	for _, n := range vars {
		if last := len(open) - 1; last >= 0 && open[last] == n {
			open = open[:last]
		} else {
			open = append(open, n)
		}
	}
	return odd, open
}
