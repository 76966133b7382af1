// Package matching gives terms values no two of which are the same, and tells which values no such choice can have: what all-different ones need, and other constraints that ask for it among other things.
package matching

import (
	"jigsaw/api"
	"jigsaw/dom"
	"jigsaw/family"
)

// Different leaves whole numbers just the values that they have in some choice of which no two are the same; it fails, if there is none. Of a variable that stands twice there is none.
func Different(d *family.Doms, terms []api.Term) {
	if family.Twice(terms) {
		d.Fail()
		return
	}
	few, many := parted(d, terms)
	g := graphOf(d, few)
	if g.match() < len(few) {
		d.Fail()
		return
	}
	k := g.knots()
	for i, t := range few {
		if l := k.possible(i); len(l) < len(g.values[i]) {
			d.KeepOnly(t, l)
		}
	}
	taken := k.taken()
	for _, t := range many {
		d.Leave(t, taken)
	}
}

// Most is how many values that are not the same whole numbers may have at most, no variable of which stands twice.
func Most(d *family.Doms, terms []api.Term) int {
	few, many := parted(d, terms)
	return graphOf(d, few).match() + len(many)
}

// parted is the terms with fewer values than there are terms, and the others. Each of these has a value that none of the rest has, whatever the rest is: so they take nothing from anyone, and only the few need be looked at value by value.
func parted(d *family.Doms, terms []api.Term) (few, many []api.Term) {
	for _, t := range terms {
		if dom.Size(d.Get(t).R) < int64(len(terms)) {
			few = append(few, t)
		} else {
			many = append(many, t)
		}
	}
	return few, many
}
