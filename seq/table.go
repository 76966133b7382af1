package seq

import (
	"iter"
	"slices"

	"jigsaw/api"
	"jigsaw/family"
)

// table says that the terms are one of the rows of numbers, each of as many as there are terms.
type table struct {
	terms   []api.Term
	numbers []int64
}

// rows goes through the rows.
func (c table) rows() iter.Seq[[]int64] {
	return slices.Chunk(c.numbers, len(c.terms))
}

// Holds: does it hold of values?
func (c table) Holds(v []api.Val) bool {
	l := family.Numbers(c.terms, v)
	for row := range c.rows() {
		if slices.Equal(row, l) {
			return true
		}
	}
	return false
}

// Narrow leaves each term what it is in some row that can be: where each number can be, and a variable that stands twice has one number.
func (c table) Narrow(d *family.Doms) {
	columns := make([][]int64, len(c.terms))
	first := c.first()
rows:
	for row := range c.rows() {
		for i, t := range c.terms {
			if row[i] != row[first[i]] || !d.Can(t, row[i]) {
				continue rows
			}
		}
		for i, n := range row {
			columns[i] = append(columns[i], n)
		}
	}
	for i, t := range c.terms {
		d.KeepOnly(t, columns[i])
	}
}

// first is of each term the first place where the same variable stands; of a constant its own.
func (c table) first() []int {
	out := make([]int, len(c.terms))
	for i, t := range c.terms {
		out[i] = i
		if t.Var >= 0 {
			out[i] = slices.IndexFunc(c.terms, func(o api.Term) bool { return o.Var == t.Var })
		}
	}
	return out
}
