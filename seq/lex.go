package seq

import (
	"slices"

	"jigsaw/api"
	"jigsaw/family"
)

// ahead says that x is ahead of y, element by element, the shorter one first; or, if it is not strict, the same.
type ahead struct {
	x, y   []api.Term
	strict bool
}

// Holds: does it hold of values?
func (c ahead) Holds(v []api.Val) bool {
	order := slices.Compare(family.Numbers(c.x, v), family.Numbers(c.y, v))
	return order < 0 || order == 0 && !c.strict
}

// ends: does it hold, if the shorter one is the beginning of the other one?
func (c ahead) ends() bool {
	return len(c.x) < len(c.y) || len(c.x) == len(c.y) && !c.strict
}

// rest tells of each place, and of the end, whether it can hold, if all ahead of that place are the same.
func (c ahead) rest(d *family.Doms) []bool {
	size := min(len(c.x), len(c.y))
	can := make([]bool, size+1)
	can[size] = c.ends()
	for i := size - 1; i >= 0; i-- {
		least, _ := d.Bounds(c.x[i])
		_, most := d.Bounds(c.y[i])
		switch {
		case c.same(i):
			can[i] = can[i+1]
		case least == most:
			can[i] = can[i+1]
		default:
			can[i] = least < most
		}
	}
	return can
}

// same: are the two elements of a place one variable?
func (c ahead) same(i int) bool {
	return c.x[i].Var >= 0 && c.x[i].Var == c.y[i].Var
}

// Narrow takes away what can not be, at the first place where the two may not be the same: there x is not above y; and below, if it could not hold by what is behind. As long as the two become the same by that, the next place is the first one.
func (c ahead) Narrow(d *family.Doms) {
	can := c.rest(d)
	if !can[0] {
		d.Fail()
		return
	}
	for i := range len(can) - 1 {
		if c.same(i) {
			continue
		}
		step := int64(0)
		if !can[i+1] {
			step = 1
		}
		rising{[]api.Term{c.x[i], c.y[i]}, step}.Narrow(d)
		x, one := d.Fixed(c.x[i])
		if y, two := d.Fixed(c.y[i]); !one || !two || x != y {
			return
		}
	}
}
