package branch

import "slices"

// Draws is numbers that come one after another.
type Draws struct {
	rest []int
}

// NewDraws is all numbers of a list.
func NewDraws(l []int) *Draws {
	return &Draws{rest: slices.Clone(l)}
}

// Next is the next one's rest of the division by most, 0 or above; 0, if there is none, or most is below 1.
func (d *Draws) Next(most int64) int64 {
	if most < 1 || d.Left() == 0 {
		return 0
	}
	n := int64(d.rest[0]) % most
	d.rest = d.rest[1:]
	if n < 0 {
		n += most
	}
	return n
}

// Left is how many there are yet.
func (d *Draws) Left() int {
	if d == nil {
		return 0
	}
	return len(d.rest)
}
