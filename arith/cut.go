package arith

import (
	"jigsaw/api"
	"jigsaw/dom"
	"jigsaw/family"
	"jigsaw/ints"
)

// span is the numbers from lo to hi. Those of variables are at most Big without their sign, so no product of two is beyond 64 bits.
type span struct {
	lo, hi int64
}

func spanOf(d *family.Doms, t api.Term) span {
	lo, hi := d.Bounds(t)
	return span{lo, hi}
}

// far is how far from 0 its numbers are at most.
func (s span) far() int64 {
	return max(-s.lo, s.hi)
}

// near is how far from 0 its numbers are at least.
func (s span) near() int64 {
	return max(s.lo, -s.hi, 0)
}

// crosses: do its numbers go from one side of 0 to the other, or touch it?
func (s span) crosses() bool {
	return s.lo <= 0 && 0 <= s.hi
}

// around is the numbers that are at most n from 0.
func around(n int64) span {
	return span{-n, n}
}

// corners is the span of what an operation that has no turn within makes of the ends.
func corners(does operation, a, b span) span {
	n, _ := does(a.lo, b.lo)
	out := span{n, n}
	for _, x := range [...]int64{a.lo, a.hi} {
		for _, y := range [...]int64{b.lo, b.hi} {
			n, _ := does(x, y)
			out = span{min(out.lo, n), max(out.hi, n)}
		}
	}
	return out
}

func cutTo(d *family.Doms, t api.Term, s span) {
	d.Cut(t, s.lo, s.hi)
}

// cut takes from x, y and z what is too great or too small, by the least and greatest values of the others.
func (r result) cut(name string, d *family.Doms) {
	switch name {
	case "int_plus":
		r.cutPlus(d)
	case "int_times":
		r.cutTimes(d)
	case "int_div":
		r.cutDiv(d)
	case "int_mod":
		r.cutMod(d)
	case "int_min":
		r.cutMin(d)
	case "int_max":
		r.cutMax(d)
	case "int_pow":
		r.cutPow(d)
	case "int_abs":
		r.cutAbs(d)
	}
}

func (r result) cutPlus(d *family.Doms) {
	cutTo(d, r.z, corners(ints.Add, spanOf(d, r.x), spanOf(d, r.y)))
	cutTo(d, r.x, corners(ints.Sub, spanOf(d, r.z), spanOf(d, r.y)))
	cutTo(d, r.y, corners(ints.Sub, spanOf(d, r.z), spanOf(d, r.x)))
}

func (r result) cutTimes(d *family.Doms) {
	cutTo(d, r.z, corners(ints.Mul, spanOf(d, r.x), spanOf(d, r.y)))
	if !dom.Has(d.Get(r.z).R, 0) {
		d.Drop(r.x, 0)
		d.Drop(r.y, 0)
	}
	cutTo(d, r.x, factor(spanOf(d, r.z), spanOf(d, r.y), d.Get(r.z).R))
	cutTo(d, r.y, factor(spanOf(d, r.z), spanOf(d, r.x), d.Get(r.z).R))
}

// factor is what a factor may be, by the product, whose values are in, and the other one.
func factor(z, y span, in []api.Range) span {
	switch {
	case !y.crosses():
		return span{corners(ints.Ceil, z, y).lo, corners(ints.Floor, z, y).hi}
	case dom.Has(in, 0): // then the other one may be 0
		return around(api.Big)
	}
	return around(z.far())
}

func (r result) cutDiv(d *family.Doms) {
	d.Drop(r.y, 0)
	x, y := spanOf(d, r.x), spanOf(d, r.y)
	if y.crosses() {
		cutTo(d, r.z, around(x.far()))
	} else {
		cutTo(d, r.z, corners(ints.Div, x, y))
	}
	z := spanOf(d, r.z)
	if z.near() > 0 { // then y times z is not farther from 0 than x
		cutTo(d, r.y, around(x.far()/z.near()))
	}
	cutTo(d, r.x, divided(z, spanOf(d, r.y)))
}

// divided is what may be divided by y, with the quotient z: their product, and what is left, which has the same sign as the product, unless that is 0.
func divided(z, y span) span {
	out := corners(ints.Mul, z, y)
	left := y.far() - 1
	if out.lo <= 0 {
		out.lo -= left
	}
	if out.hi >= 0 {
		out.hi += left
	}
	return out
}

func (r result) cutMod(d *family.Doms) {
	d.Drop(r.y, 0)
	x := spanOf(d, r.x)
	cutTo(d, r.z, around(spanOf(d, r.y).far()-1))
	cutTo(d, r.z, span{min(x.lo, 0), max(x.hi, 0)})
}

func (r result) cutMin(d *family.Doms) {
	cutTo(d, r.z, corners(r.does, spanOf(d, r.x), spanOf(d, r.y)))
	x, y, z := spanOf(d, r.x), spanOf(d, r.y), spanOf(d, r.z)
	d.Cut(r.x, z.lo, api.Big)
	d.Cut(r.y, z.lo, api.Big)
	if x.lo > z.hi { // then y is the lesser one
		d.Cut(r.y, z.lo, z.hi)
	}
	if y.lo > z.hi {
		d.Cut(r.x, z.lo, z.hi)
	}
}

func (r result) cutMax(d *family.Doms) {
	cutTo(d, r.z, corners(r.does, spanOf(d, r.x), spanOf(d, r.y)))
	x, y, z := spanOf(d, r.x), spanOf(d, r.y), spanOf(d, r.z)
	d.Cut(r.x, -api.Big, z.hi)
	d.Cut(r.y, -api.Big, z.hi)
	if x.hi < z.lo { // then y is the greater one
		d.Cut(r.y, z.lo, z.hi)
	}
	if y.hi < z.lo {
		d.Cut(r.x, z.lo, z.hi)
	}
}

// cutPow does nothing where a power may go beyond: of that nothing can be said, so it must stay.
func (r result) cutPow(d *family.Doms) {
	x, y := spanOf(d, r.x), spanOf(d, r.y)
	far, e := ints.Pow(x.far(), max(y.hi, 0))
	if e != api.OK {
		return
	}
	most := around(max(far, 1))
	if x.lo >= 0 {
		most.lo = 0
	}
	cutTo(d, r.z, most)
	if y.lo >= 1 { // then a number is not farther from 0 than its power
		cutTo(d, r.x, around(spanOf(d, r.z).far()))
	}
}

func (r result) cutAbs(d *family.Doms) {
	x := spanOf(d, r.x)
	d.Cut(r.z, x.near(), x.far())
	z := spanOf(d, r.z)
	cutTo(d, r.x, around(z.hi))
	if l, e := dom.Less(d.Get(r.x).R, []api.Range{{Lo: 1 - z.lo, Hi: z.lo - 1}}); e == api.OK {
		d.Keep(r.x, api.Dom{R: l})
	}
}
