package arith

import (
	"jigsaw/api"
	"jigsaw/cons"
	"jigsaw/dom"
	"jigsaw/family"
	"jigsaw/ints"
)

// operation is what is reckoned of two numbers. Where it is ErrZero, a constraint does not hold; where it is ErrOver, it can not be said.
type operation func(a, b int64) (int64, api.Errno)

// result is a constraint that z is what an operation makes of x and y.
type result struct {
	does    operation
	x, y, z api.Term
}

// resultOf reads a constraint. That of one number alone is an operation to which the other one is nothing.
func resultOf(c api.Con) result {
	r := result{does: operationOf(c.Name), x: c.Args[0].L[0], y: cons.Int(0), z: c.Args[1].L[0]}
	if len(c.Args) == 3 {
		r.y, r.z = r.z, c.Args[2].L[0]
	}
	return r
}

func operationOf(name string) operation {
	switch name {
	case "int_plus":
		return ints.Add
	case "int_times":
		return ints.Mul
	case "int_div":
		return ints.Div
	case "int_mod":
		return ints.Mod
	case "int_pow":
		return ints.Pow
	case "int_min":
		return func(a, b int64) (int64, api.Errno) { return min(a, b), api.OK }
	case "int_max":
		return func(a, b int64) (int64, api.Errno) { return max(a, b), api.OK }
	}
	return func(a, _ int64) (int64, api.Errno) { return ints.Abs(a) }
}

// holds: does it hold of values?
func (r result) holds(v []api.Val) (bool, api.Errno) {
	x, _ := cons.Of(r.x, v)
	y, _ := cons.Of(r.y, v)
	z, _ := cons.Of(r.z, v)
	n, e := r.does(x.N, y.N)
	if e == api.ErrOver {
		return false, e
	}
	return e == api.OK && n == z.N, api.OK
}

// pairs leaves, if x and y have but few values together, just those of x, y and z that are in some pair with its result. A pair that goes beyond stays, and all of z with it, for of that nothing can be said; ErrOver, if there are no others.
func (r result) pairs(d *family.Doms) api.Errno {
	x, y, z := d.Get(r.x).R, d.Get(r.y).R, d.Get(r.z).R
	if dom.Size(x)*dom.Size(y) > api.MaxScan {
		return api.OK
	}
	var xs, ys, zs []int64
	said, beyond := false, false
	for a := range dom.Each(x) {
		for b := range dom.Each(y) {
			n, e := r.does(a, b)
			over := e == api.ErrOver
			said, beyond = said || !over, beyond || over
			if !over && (e != api.OK || !dom.Has(z, n)) {
				continue
			}
			xs, ys, zs = append(xs, a), append(ys, b), append(zs, n)
		}
	}
	if !said {
		return api.ErrOver
	}
	d.KeepOnly(r.x, xs)
	d.KeepOnly(r.y, ys)
	if !beyond {
		d.KeepOnly(r.z, zs)
	}
	return api.OK
}
