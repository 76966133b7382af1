package logic

import (
	"jigsaw/api"
	"jigsaw/cons"
	"jigsaw/dom"
	"jigsaw/family"
)

// comparison is how two truths are held against each other. Of bool2int the second one is a whole number, which must be a truth then.
type comparison struct {
	name string
	a, b api.Term
}

// says: is it so of two numbers? One that is below another is, to begin with, not the same; the rest is what is said of one that is at most the other.
func (c comparison) says(a, b int64) bool {
	switch c.name {
	case "bool_lt":
		if a == b {
			return false
		}
		fallthrough
	case "bool_le":
		return a <= b
	case "bool_ne", "bool_not":
		return a != b
	}
	return a == b
}

// Holds: does it hold of values?
func (c comparison) Holds(v []api.Val) (bool, api.Errno) {
	a, _ := cons.Of(c.a, v)
	b, _ := cons.Of(c.b, v)
	return c.says(a.N, b.N), api.OK
}

// Enforce leaves each of both just the truths with which it is so with some truth of the other one.
func (c comparison) Enforce(d *family.Doms, so bool) {
	var as, bs []int64
	for _, a := range [...]int64{0, 1} {
		for _, b := range [...]int64{0, 1} {
			if c.may(d, a, b) && c.says(a, b) == so {
				as, bs = append(as, a), append(bs, b)
			}
		}
	}
	d.KeepOnly(c.a, as)
	d.KeepOnly(c.b, bs)
}

// may: can they be these two numbers?
func (c comparison) may(d *family.Doms, a, b int64) bool {
	if c.a.Var >= 0 && c.a.Var == c.b.Var && a != b {
		return false
	}
	return dom.Has(d.Get(c.a).R, a) && dom.Has(d.Get(c.b).R, b)
}
