package setcon

import (
	"jigsaw/api"
	"jigsaw/family"
	"jigsaw/sets"
)

// order takes away what can not be in the order of sets: the sets of s that are too great even for the greatest one of t, and those of t that are too small even for the least one of s.
func (p pair) order(d *family.Doms) {
	right := p.asks()
	first, last := least(d.Get(p.s)), greatest(d.Get(p.t))
	if !right(greatest(d.Get(p.s)), last) {
		shave(d, p.s, func(part api.Dom) bool { return right(least(part), last) })
	}
	if !right(first, least(d.Get(p.t))) {
		shave(d, p.t, func(part api.Dom) bool { return right(first, greatest(part)) })
	}
}

// shave leaves a set the smallest domain that has all its sets that can be. Of a part of its domain can tells if one of it can be.
func shave(d *family.Doms, t api.Term, can func(part api.Dom) bool) {
	whole := d.Get(t)
	if !can(whole) {
		d.Fail()
		return
	}
	lo, up := whole.Lo, whole.Up
	for _, e := range sets.Less(whole.Up, whole.Lo) {
		if !can(sets.Must(whole, e)) {
			up = sets.Less(up, []int64{e})
		}
		if !can(sets.Not(whole, e)) {
			lo = sets.Join(lo, []int64{e})
		}
	}
	fewest, most := whole.Least, whole.Most
	for !can(sets.Card(whole, fewest, fewest)) {
		fewest++
	}
	for !can(sets.Card(whole, most, most)) {
		most--
	}
	if next, e := sets.Of(lo, up, fewest, most); e == api.OK {
		d.Keep(t, next)
	}
}

// least is the first set of a domain that is not empty, in the order of sets.
func least(d api.Dom) []int64 {
	for l := range sets.Each(d) {
		return l
	}
	return nil
}

// greatest is the last set of a domain that is tight and not empty, in the order of sets: a set that goes on is behind one that ends, and goes on best with the greatest element that can be next.
func greatest(d api.Dom) []int64 {
	var out []int64
	for rest, must := d.Up, d.Lo; ; {
		next := -1
		for i, e := range rest {
			needed := len(must) > 0 && must[0] == e
			if (needed || len(out)+1+len(must) <= d.Most) && len(out)+len(rest)-i >= d.Least {
				next = i
			}
			if needed {
				break // nothing that is needed is passed over
			}
		}
		if next < 0 {
			return out
		}
		out = append(out, rest[next])
		if len(must) > 0 && must[0] == rest[next] {
			must = must[1:]
		}
		rest = rest[next+1:]
	}
}
