package seq

import (
	"jigsaw/api"
	"jigsaw/dom"
	"jigsaw/family"
	"jigsaw/matching"
)

// inverse says that x(i) is j just if y(j) is i; all are from 1 to how many there are.
type inverse struct {
	x, y []api.Term
}

// Holds: does it hold of values? Where y leads back from all places to which x leads, these are as many as there are, so that x leads back from those of y, too.
func (c inverse) Holds(v []api.Val) bool {
	y := family.Numbers(c.y, v)
	for i, j := range family.Numbers(c.x, v) {
		if j < 1 || j > int64(len(y)) || y[j-1] != int64(i+1) {
			return false
		}
	}
	return true
}

// Narrow takes away what can not be. Neither of both has a number twice; what is left of x by that, y is asked for.
func (c inverse) Narrow(d *family.Doms) {
	if family.Twice(c.y) {
		d.Fail()
		return
	}
	mirror(d, c.y, c.x)
	matching.Different(d, c.x)
	mirror(d, c.x, c.y)
}

// mirror leaves each of y the places of x at which its own place can be.
func mirror(d *family.Doms, x, y []api.Term) {
	places := make([][]int64, len(y))
	for i, t := range x {
		for j := range dom.Each(dom.Cut(d.Get(t).R, 1, int64(len(y)))) {
			places[j-1] = append(places[j-1], int64(i+1))
		}
	}
	for j, t := range y {
		d.KeepOnly(t, places[j])
	}
}
