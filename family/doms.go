package family

import (
	"slices"
	"sort"

	"jigsaw/api"
	"jigsaw/dom"
	"jigsaw/kinds"
	"jigsaw/sets"
)

// Doms is the domains while one constraint prunes them. A term is asked and cut alike, be it a variable or a constant. Where nothing would be left the domain stays as it is, and the failure is kept in mind: so whoever prunes finds no empty domain, and need not ask for one at each step.
type Doms struct {
	l      []api.Dom
	failed bool
}

// begin is domains with memory of their own; those of sets among these variables are made tight.
func begin(l []api.Dom, vars []int) *Doms {
	d := &Doms{l: make([]api.Dom, len(l))}
	for n, x := range l {
		d.l[n] = kinds.Copy(x)
	}
	for _, n := range vars {
		d.l[n] = kinds.Both(l[n], l[n])
		if kinds.Empty(l[n]) {
			d.Fail()
		}
	}
	return d
}

// Fail says that the constraint can not hold.
func (d *Doms) Fail() {
	d.failed = true
}

// Get is a term's domain: of a constant just its value. It must not be written into.
func (d *Doms) Get(t api.Term) api.Dom {
	switch {
	case t.Var >= 0:
		return d.l[t.Var]
	case t.C.Set:
		only, _ := sets.Of(t.C.S, t.C.S, 0, len(t.C.S))
		return only
	}
	return api.Dom{R: []api.Range{{Lo: t.C.N, Hi: t.C.N}}}
}

// Bounds is the least and the greatest value of a whole number.
func (d *Doms) Bounds(t api.Term) (int64, int64) {
	l := d.Get(t).R
	return l[0].Lo, l[len(l)-1].Hi
}

// Fixed is the only value of a whole number; false, if it has several.
func (d *Doms) Fixed(t api.Term) (int64, bool) {
	lo, hi := d.Bounds(t)
	return lo, lo == hi
}

// Can: may a whole number be v?
func (d *Doms) Can(t api.Term, v int64) bool {
	return dom.Has(d.Get(t).R, v)
}

// put gives a term another domain within its own.
func (d *Doms) put(t api.Term, next api.Dom) {
	switch {
	case kinds.Empty(next):
		d.Fail()
	case t.Var >= 0:
		d.l[t.Var] = next
	}
}

// Keep takes from a term what is not in o, a domain of its kind.
func (d *Doms) Keep(t api.Term, o api.Dom) {
	d.put(t, kinds.Both(d.Get(t), o))
}

// KeepOnly takes from a whole number all but these values.
func (d *Doms) KeepOnly(t api.Term, values []int64) {
	if l, e := dom.Of(values...); e == api.OK {
		d.Keep(t, api.Dom{R: l})
	}
}

// KeepCommon leaves each of some whole numbers what all of them can be.
func (d *Doms) KeepCommon(l []api.Term) {
	if len(l) == 0 {
		return
	}
	common := d.Get(l[0])
	for _, t := range l {
		common = kinds.Both(common, d.Get(t))
	}
	for _, t := range l {
		d.Keep(t, common)
	}
}

// KeepSome takes from a whole number what none of these terms can be. (Where that would come to too many ranges, nothing.)
func (d *Doms) KeepSome(t api.Term, others []api.Term) {
	none := d.Get(t).R
	for _, o := range others {
		if len(none) == 0 {
			return
		}
		rest, e := dom.Less(none, d.Get(o).R)
		if e != api.OK {
			return
		}
		none = rest
	}
	if some, e := dom.Less(d.Get(t).R, none); e == api.OK {
		d.Keep(t, api.Dom{R: some})
	}
}

// Cut takes from a whole number what is not from lo to hi.
func (d *Doms) Cut(t api.Term, lo, hi int64) {
	d.put(t, api.Dom{R: dom.Cut(d.Get(t).R, lo, hi)})
}

// Leave takes these values from a whole number: as many of them as its ranges have room for.
func (d *Doms) Leave(t api.Term, values []int64) {
	in := d.Get(t).R
	l, e := without(in, values)
	if e == api.ErrFull {
		l, e = without(in, fitting(in, values))
	}
	if e == api.OK {
		d.put(t, api.Dom{R: l})
	}
}

// LeaveRanges takes the values of some ranges, in any order, from a whole number. Where its ranges have no room for what is left, only those go that are below or above all of that.
func (d *Doms) LeaveRanges(t api.Term, ranges []api.Range) {
	gone, e := dom.Norm(near(ranges))
	if e != api.OK {
		return
	}
	if l, e := dom.Less(d.Get(t).R, gone); e == api.OK {
		d.put(t, api.Dom{R: l})
		return
	}
	for _, r := range gone {
		if lo, _ := d.Bounds(t); r.Lo <= lo && lo <= r.Hi {
			d.Cut(t, r.Hi+1, api.Big)
		}
	}
	for _, r := range slices.Backward(gone) {
		if _, hi := d.Bounds(t); r.Lo <= hi && hi <= r.Hi {
			d.Cut(t, -api.Big, r.Lo-1)
		}
	}
}

// near is the same ranges, but for what is beyond Big.
func near(ranges []api.Range) []api.Range {
	out := make([]api.Range, len(ranges))
	for i, r := range ranges {
		out[i] = api.Range{Lo: max(r.Lo, -api.Big), Hi: min(r.Hi, api.Big)}
	}
	return out
}

// Drop takes one value from a whole number.
func (d *Doms) Drop(t api.Term, v int64) {
	d.put(t, api.Dom{R: dom.Without(d.Get(t).R, v)})
}

// without is ranges without some values.
func without(in []api.Range, values []int64) ([]api.Range, api.Errno) {
	gone, e := dom.Of(values...)
	if e != api.OK {
		return nil, e
	}
	return dom.Less(in, gone)
}

// fitting is those of some values without which right ranges are not too many. One from within a range parts it in two; the others make none more.
func fitting(in []api.Range, values []int64) []int64 {
	var out []int64
	room := api.MaxRanges - len(in)
	for _, v := range values {
		at := sort.Search(len(in), func(i int) bool { return in[i].Hi > v })
		if at < len(in) && in[at].Lo < v {
			if room == 0 {
				continue
			}
			room--
		}
		out = append(out, v)
	}
	return out
}
