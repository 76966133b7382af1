package count

import (
	"slices"

	"jigsaw/api"
	"jigsaw/family"
)

// precedence says that s stands ahead of t, where t stands at all.
type precedence struct {
	s, t  int64
	terms []api.Term
}

// Holds: does it hold of values? The first t decides for all.
func (c precedence) Holds(v []api.Val) bool {
	l := family.Numbers(c.terms, v)
	at := slices.Index(l, c.t)
	return c.s == c.t || at < 0 || slices.Contains(l[:at], c.s)
}

// Narrow takes away what can not be: no term is t up to the first that may be s; that one is s, if no other may be it ahead of a term that is t.
func (c precedence) Narrow(d *family.Doms) {
	if c.s == c.t {
		return
	}
	may := func(t api.Term) bool { return d.Can(t, c.s) }
	first := slices.IndexFunc(c.terms, may)
	if first < 0 {
		first = len(c.terms) - 1
	}
	for _, t := range c.terms[:first+1] {
		d.Drop(t, c.t)
	}
	last := slices.IndexFunc(c.terms, func(t api.Term) bool {
		v, ok := d.Fixed(t)
		return ok && v == c.t
	})
	if last > first && !slices.ContainsFunc(c.terms[first+1:last], may) {
		d.Cut(c.terms[first], c.s, c.s)
	}
}
