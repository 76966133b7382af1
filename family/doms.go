package family

import (
	"jigsaw/api"
	"jigsaw/dom"
	"jigsaw/kinds"
	"jigsaw/sets"
)

// Doms is the domains while one constraint prunes them. A term is asked and cut alike, be it a variable or a constant. Where nothing would be left the domain stays as it is, and the failure is kept in mind: so whoever prunes finds no empty domain, and need not ask for one at each step.
type Doms struct {
	l      []api.Dom
	failed bool
}

// begin is domains with memory of their own; those of sets among these variables are made tight.
func begin(l []api.Dom, vars []int) *Doms {
	d := &Doms{l: make([]api.Dom, len(l))}
	for n, x := range l {
		d.l[n] = kinds.Copy(x)
	}
	for _, n := range vars {
		d.l[n] = kinds.Both(l[n], l[n])
		if kinds.Empty(l[n]) {
			d.Fail()
		}
	}
	return d
}

// Fail says that the constraint can not hold.
func (d *Doms) Fail() {
	d.failed = true
}

// Get is a term's domain: of a constant just its value. It must not be written into.
func (d *Doms) Get(t api.Term) api.Dom {
	switch {
	case t.Var >= 0:
		return d.l[t.Var]
	case t.C.Set:
		only, _ := sets.Of(t.C.S, t.C.S, 0, len(t.C.S))
		return only
	}
	return api.Dom{R: []api.Range{{Lo: t.C.N, Hi: t.C.N}}}
}

// Bounds is the least and the greatest value of a whole number.
func (d *Doms) Bounds(t api.Term) (int64, int64) {
	l := d.Get(t).R
	return l[0].Lo, l[len(l)-1].Hi
}

// put gives a term another domain within its own.
func (d *Doms) put(t api.Term, next api.Dom) {
	switch {
	case kinds.Empty(next):
		d.Fail()
	case t.Var >= 0:
		d.l[t.Var] = next
	}
}

// Keep takes from a term what is not in o, a domain of its kind.
func (d *Doms) Keep(t api.Term, o api.Dom) {
	d.put(t, kinds.Both(d.Get(t), o))
}

// KeepOnly takes from a whole number all but these values.
func (d *Doms) KeepOnly(t api.Term, values []int64) {
	if l, e := dom.Of(values...); e == api.OK {
		d.Keep(t, api.Dom{R: l})
	}
}

// Cut takes from a whole number what is not from lo to hi.
func (d *Doms) Cut(t api.Term, lo, hi int64) {
	d.put(t, api.Dom{R: dom.Cut(d.Get(t).R, lo, hi)})
}

// Drop takes one value from a whole number.
func (d *Doms) Drop(t api.Term, v int64) {
	d.put(t, api.Dom{R: dom.Without(d.Get(t).R, v)})
}
