package setcon

import (
	"slices"

	"jigsaw/api"
	"jigsaw/cons"
	"jigsaw/family"
	"jigsaw/sets"
)

// pair is how two sets are held against each other.
type pair struct {
	name string
	s, t api.Term
}

// asks is what is asked of two sets. In an order that is not strict they may be the same; the rest is what the strict one asks.
func (p pair) asks() func(s, t []int64) bool {
	return func(s, t []int64) bool {
		switch p.name {
		case "set_eq":
			return slices.Equal(s, t)
		case "set_ne":
			return !slices.Equal(s, t)
		case "set_subset":
			return sets.Sub(s, t)
		case "set_superset":
			return sets.Sub(t, s)
		case "set_le":
			if slices.Equal(s, t) {
				return true
			}
			fallthrough
		case "set_lt":
			return sets.Cmp(s, t) < 0
		}
		return false
	}
}

// Holds: does it hold of values?
func (p pair) Holds(v []api.Val) (bool, api.Errno) {
	s, _ := cons.Of(p.s, v)
	t, _ := cons.Of(p.t, v)
	return p.asks()(s.S, t.S), api.OK
}

// turned is the pair the other way round, by another name.
func (p pair) turned(name string) pair {
	return pair{name, p.t, p.s}
}

// Enforce takes away what can not be. Of a set and itself it is the same whatever the set is.
func (p pair) Enforce(d *family.Doms, so bool) {
	if p.s.Var >= 0 && p.s.Var == p.t.Var {
		if p.asks()(nil, nil) != so {
			d.Fail()
		}
		return
	}
	switch {
	case p.name == "set_superset":
		p.turned("set_subset").Enforce(d, so)
	case p.name == "set_subset" && so:
		p.within(d)
	case p.name == "set_subset":
		p.beyond(d)
	case p.name == "set_le" && !so:
		p.turned("set_lt").order(d)
	case p.name == "set_lt" && !so:
		p.turned("set_le").order(d)
	case p.name == "set_le" || p.name == "set_lt":
		p.order(d)
	case (p.name == "set_eq") == so:
		d.Keep(p.s, d.Get(p.t))
		d.Keep(p.t, d.Get(p.s))
	default:
		p.differ(d)
	}
}

// within: s is within t, if it is just what both have.
func (p pair) within(d *family.Doms) {
	operation{makerOf("set_intersect"), [3]api.Term{p.s, p.t, p.s}}.Enforce(d, true)
}

// beyond: s is not within t, if what s alone has is not empty.
func (p pair) beyond(d *family.Doms) {
	s, t := d.Get(p.s), d.Get(p.t)
	alone, _ := sets.Of(nil, s.Up, 1, api.MaxElems)
	l := trio{maker: makerOf("set_diff"), doms: [3]api.Dom{s, t, alone}, twin: [3]int{0, 1, 2}}
	if !l.narrow() {
		d.Fail()
		return
	}
	d.Keep(p.s, l.doms[0])
	d.Keep(p.t, l.doms[1])
}

// differ takes from the one the only set of the other one.
func (p pair) differ(d *family.Doms) {
	if l, ok := sets.Fixed(d.Get(p.s)); ok {
		avoid(d, p.t, l)
	}
	if l, ok := sets.Fixed(d.Get(p.t)); ok {
		avoid(d, p.s, l)
	}
}

// avoid takes one set from a domain, where it can be seen by how many elements there are: if it is the least or the greatest one that there may be.
func avoid(d *family.Doms, t api.Term, l []int64) {
	in := d.Get(t)
	if slices.Equal(in.Lo, l) {
		d.Keep(t, sets.Card(in, len(l)+1, api.MaxElems))
	}
	if slices.Equal(in.Up, l) {
		d.Keep(t, sets.Card(in, 0, len(l)-1))
	}
}
