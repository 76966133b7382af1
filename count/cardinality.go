package count

import (
	"cmp"
	"slices"

	"jigsaw/api"
	"jigsaw/family"
)

// cardinality says of each value how often it stands among the terms; closed, that there are no others.
type cardinality struct {
	terms  []api.Term
	values []int64    // rising
	n      []api.Term // how often each of them stands there
	closed bool
}

func cardinalityOf(c api.Con) cardinality {
	of, n := c.Args[1].L, c.Args[2].L
	order := make([]int, len(of))
	for i := range order {
		order[i] = i
	}
	slices.SortFunc(order, func(a, b int) int { return cmp.Compare(of[a].C.N, of[b].C.N) })
	out := cardinality{terms: c.Args[0].L, closed: c.Name == "fzn_global_cardinality_closed"}
	for _, i := range order {
		out.values, out.n = append(out.values, of[i].C.N), append(out.n, n[i])
	}
	return out
}

// Holds: does it hold of values?
func (c cardinality) Holds(v []api.Val) bool {
	found := make([]int64, len(c.values))
	for _, x := range family.Numbers(c.terms, v) {
		i, ok := slices.BinarySearch(c.values, x)
		switch {
		case ok:
			found[i]++
		case c.closed:
			return false
		}
	}
	return slices.Equal(found, family.Numbers(c.n, v))
}

// Narrow takes away what can not be.
func (c cardinality) Narrow(d *family.Doms) {
	c = c.near(d)
	if c.closed {
		for _, t := range c.terms {
			d.KeepOnly(t, c.values)
		}
	}
	o := oftenOf(d, c.terms, c.values)
	for i, n := range c.n {
		d.Cut(n, o.sure[i], o.may[i])
	}
	c.share(d, o)
	c.seat(d, o)
}

// near is the same but for values beyond Big: these stand nowhere, so how often they do is 0.
func (c cardinality) near(d *family.Doms) cardinality {
	out := cardinality{terms: c.terms, closed: c.closed}
	for i, v := range c.values {
		if v < -api.Big || v > api.Big {
			d.Cut(c.n[i], 0, 0)
			continue
		}
		out.values, out.n = append(out.values, v), append(out.n, c.n[i])
	}
	return out
}

// share takes from each number of times what is too much or too little for all of them together.
func (c cardinality) share(d *family.Doms, o often) {
	least, most := int64(0), int64(0)
	for _, n := range c.n {
		lo, hi := d.Bounds(n)
		least, most = least+lo, most+hi
	}
	for _, n := range c.n {
		lo, hi := d.Bounds(n)
		d.Cut(n, o.least-(most-hi), o.most-(least-lo))
		nextLo, nextHi := d.Bounds(n)
		least, most = least+nextLo-lo, most+nextHi-hi
	}
}

// seat takes from the terms that have several values those that stand there often enough already; if as many as may have a value must have it, they do.
func (c cardinality) seat(d *family.Doms, o often) {
	var enough []int64
	must := make([]bool, len(c.n))
	for i, n := range c.n {
		lo, hi := d.Bounds(n)
		if hi == o.sure[i] {
			enough = append(enough, c.values[i])
		}
		must[i] = lo == o.may[i]
	}
	for k, t := range c.terms {
		if len(o.can[k]) == 0 {
			continue
		}
		d.Leave(t, enough)
		for _, i := range o.can[k] {
			if must[i] {
				d.Cut(t, c.values[i], c.values[i])
			}
		}
	}
}
