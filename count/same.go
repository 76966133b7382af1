package count

import (
	"cmp"
	"slices"

	"jigsaw/api"
	"jigsaw/family"
	"jigsaw/matching"
)

// variants is how many values that are not the same there are.
func variants(l []int64) int {
	l = slices.Clone(l)
	slices.Sort(l)
	return len(slices.Compact(l))
}

// different says that no two terms are the same.
type different struct {
	terms []api.Term
}

// Holds: does it hold of values?
func (c different) Holds(v []api.Val) bool {
	return variants(family.Numbers(c.terms, v)) == len(c.terms)
}

// Narrow leaves just what can be.
func (c different) Narrow(d *family.Doms) {
	matching.Different(d, c.terms)
}

// equal says that all terms are the same.
type equal struct {
	terms []api.Term
}

// Holds: does it hold of values?
func (c equal) Holds(v []api.Val) bool {
	return variants(family.Numbers(c.terms, v)) <= 1
}

// Narrow leaves each term what all can be.
func (c equal) Narrow(d *family.Doms) {
	d.KeepCommon(c.terms)
}

// variety says how many values that are not the same the terms have.
type variety struct {
	n     api.Term
	terms []api.Term
}

// Holds: does it hold of values?
func (c variety) Holds(v []api.Val) bool {
	return family.Number(c.n, v) == int64(variants(family.Numbers(c.terms, v)))
}

// Narrow takes away what can not be. If there are to be as many values as there are terms, these are all different; if there are to be no more than are known, each term has one of them.
func (c variety) Narrow(d *family.Doms) {
	terms := distinct(c.terms)
	d.Cut(c.n, int64(apart(d, terms)), int64(matching.Most(d, terms)))
	least, most := d.Bounds(c.n)
	if least == int64(len(terms)) {
		matching.Different(d, terms)
	}
	if known := fixed(d, terms); int64(len(known)) == most {
		for _, t := range terms {
			d.KeepOnly(t, known)
		}
	}
}

// distinct is terms, each once: neither a variable nor a constant stands there twice.
func distinct(l []api.Term) []api.Term {
	type key struct {
		v int
		n int64
	}
	seen := map[key]int{}
	var out []api.Term
	for _, t := range l {
		k := key{t.Var, t.C.N}
		if seen[k]++; seen[k] == 1 {
			out = append(out, t)
		}
	}
	return out
}

// fixed is the values of those that have but one, rising, each once.
func fixed(d *family.Doms, terms []api.Term) []int64 {
	var out []int64
	for _, t := range terms {
		if v, ok := d.Fixed(t); ok {
			out = append(out, v)
		}
	}
	slices.Sort(out)
	return slices.Compact(out)
}

// apart is how many terms there are, if they are chosen well, each of which lies above the ones ahead: so many values there are at least.
func apart(d *family.Doms, terms []api.Term) int {
	spans := make([]api.Range, len(terms))
	for i, t := range terms {
		spans[i].Lo, spans[i].Hi = d.Bounds(t)
	}
	slices.SortFunc(spans, func(a, b api.Range) int { return cmp.Compare(a.Hi, b.Hi) })
	n, last := 0, int64(-api.Big-1)
	for _, s := range spans {
		if s.Lo > last {
			n, last = n+1, s.Hi
		}
	}
	return n
}
