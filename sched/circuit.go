package sched

import (
	"jigsaw/api"
	"jigsaw/matching"
)

// circuit says that the terms lead from the first place to all, and back.
type circuit struct {
	terms []api.Term
}

// can: no places lead round but all of them.
func (c circuit) can(w world) bool {
	t, ok := tourOf(w, c.terms)
	if !ok {
		return false
	}
	left := len(c.terms)
	for _, k := range t.chains() {
		left -= k.size
	}
	return left == 0 || left == len(c.terms) && t.round(0) == left
}

// narrow takes away what is no place, what another one leads to, and what would lead round too early.
func (c circuit) narrow(d domains) {
	keepPlaces(d, c.terms)
	t, _ := tourOf(d, c.terms)
	for _, k := range t.chains() {
		if k.size < len(c.terms) {
			d.Drop(c.terms[k.last], int64(k.first+1))
		}
	}
}

// keepPlaces leaves terms places to which no other one leads.
func keepPlaces(d domains, terms []api.Term) {
	for _, t := range terms {
		d.Cut(t, 1, int64(len(terms)))
	}
	matching.Different(d.Doms, terms)
}

// subcircuit says that no two of the terms lead to the same place, and all of them that do not lead to themselves are one circuit.
type subcircuit struct {
	terms []api.Term
}

// can: if some places lead round, none is known to lead elsewhere but they.
func (c subcircuit) can(w world) bool {
	t, ok := tourOf(w, c.terms)
	if !ok {
		return false
	}
	n, one := t.rounds()
	if n == 0 {
		return true
	}
	for _, k := range t.chains() {
		if k.size > 1 {
			return false
		}
	}
	return t.round(one) == n
}

// narrow takes away what is no place, what another one leads to, and what would lead round too early. If there is a circuit, all others lead to themselves.
func (c subcircuit) narrow(d domains) {
	keepPlaces(d, c.terms)
	t, _ := tourOf(d, c.terms)
	closed, _ := t.rounds()
	must := 0
	for i := range c.terms {
		must += c.leaves(d, i)
	}
	for _, k := range t.chains() {
		last := c.terms[k.last]
		inside := k.size - 1 + c.leaves(d, k.last)
		switch {
		case closed > 0:
			d.Cut(last, int64(k.last+1), int64(k.last+1))
		case k.size > 1 && must > inside:
			d.Drop(last, int64(k.first+1))
		}
	}
}

// leaves is 1, if a place can not lead to itself, else 0.
func (c subcircuit) leaves(d domains, i int) int {
	if d.Can(c.terms[i], int64(i+1)) {
		return 0
	}
	return 1
}
