package setcon

import (
	"jigsaw/api"
	"jigsaw/cons"
	"jigsaw/family"
	"jigsaw/sets"
)

// member says that x is in s.
type member struct {
	x, s api.Term
}

// Holds: does it hold of values?
func (m member) Holds(v []api.Val) (bool, api.Errno) {
	x, _ := cons.Of(m.x, v)
	s, _ := cons.Of(m.s, v)
	return sets.In(x.N, s.S), api.OK
}

// Enforce takes away what can not be.
func (m member) Enforce(d *family.Doms, so bool) {
	part := sets.Not
	if so {
		part = sets.Must
		d.KeepOnly(m.x, d.Get(m.s).Up)
		d.Keep(m.s, sets.Card(d.Get(m.s), 1, api.MaxElems))
	} else {
		d.Leave(m.x, d.Get(m.s).Lo)
	}
	if lo, hi := d.Bounds(m.x); lo == hi {
		d.Keep(m.s, part(d.Get(m.s), lo))
	}
}

// size says that s has n elements.
type size struct {
	s, n api.Term
}

// Holds: does it hold of values?
func (z size) Holds(v []api.Val) (bool, api.Errno) {
	s, _ := cons.Of(z.s, v)
	n, _ := cons.Of(z.n, v)
	return int64(len(s.S)) == n.N, api.OK
}

// Enforce takes away what can not be. No truth hangs on it, so it is always so.
func (z size) Enforce(d *family.Doms, _ bool) {
	s := d.Get(z.s)
	d.Cut(z.n, int64(s.Least), int64(s.Most))
	lo, hi := d.Bounds(z.n)
	d.Keep(z.s, sets.Card(s, int(lo), int(hi)))
}
