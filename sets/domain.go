package sets

import (
	"iter"
	"slices"

	"jigsaw/api"
)

// none is the empty domain of a set.
func none() api.Dom {
	return api.Dom{Set: true, Least: 1}
}

// Right: is it a domain of a set?
func Right(d api.Dom) bool {
	if !d.Set || len(d.R) > 0 || !Set(d.Lo) || !Set(d.Up) || !Sub(d.Lo, d.Up) {
		return false
	}
	if d.Least == 1 && d.Most == 0 && len(d.Up) == 0 {
		return true
	}
	return len(d.Lo) <= d.Least && d.Least <= d.Most && d.Most <= len(d.Up)
}

// tight is the domain of these, made tight, with lists of its own. lo and up are sets, lo is within up.
func tight(lo, up []int64, least, most int) api.Dom {
	least, most = max(least, len(lo)), min(most, len(up))
	if least > most {
		return none()
	}
	if least == len(up) {
		lo = up
	}
	if most == len(lo) {
		up = lo
	}
	return api.Dom{
		Set: true, Lo: slices.Clone(lo), Up: slices.Clone(up),
		Least: max(least, len(lo)), Most: min(most, len(up)),
	}
}

// taken is d made tight; one that can not be is taken as the empty one.
func taken(d api.Dom) api.Dom {
	if !Right(d) {
		return none()
	}
	return tight(d.Lo, d.Up, d.Least, d.Most)
}

// Of is the domain of all sets between lo and up with least to most elements.
func Of(lo, up []int64, least, most int) (api.Dom, api.Errno) {
	if !Set(lo) || !Set(up) || !Sub(lo, up) || least < 0 {
		return api.Dom{}, api.ErrDom
	}
	return tight(lo, up, least, most), api.OK
}

// Empty: has it no sets? One that can be, and is not the empty one, has some.
func Empty(d api.Dom) bool {
	return !Right(d) || d.Least > d.Most
}

// Has: is l one of its sets?
func Has(d api.Dom, l []int64) bool {
	l = known(l)
	return Right(d) && Sub(d.Lo, l) && Sub(l, d.Up) && d.Least <= len(l) && len(l) <= d.Most
}

// Fixed is its only set, and true, if it has just one. A domain that is tight has then the same bounds, and several sets else.
func Fixed(d api.Dom) ([]int64, bool) {
	d = taken(d)
	if Empty(d) || len(d.Lo) < len(d.Up) {
		return nil, false
	}
	return d.Lo, true
}

// Must is its sets with v.
func Must(d api.Dom, v int64) api.Dom {
	d = taken(d)
	if !In(v, d.Up) {
		return none()
	}
	return tight(Join(d.Lo, []int64{v}), d.Up, d.Least, d.Most)
}

// Not is its sets without v.
func Not(d api.Dom, v int64) api.Dom {
	d = taken(d)
	if In(v, d.Lo) {
		return none()
	}
	return tight(d.Lo, Less(d.Up, []int64{v}), d.Least, d.Most)
}

// Card is its sets with least to most elements.
func Card(d api.Dom, least, most int) api.Dom {
	d = taken(d)
	return tight(d.Lo, d.Up, max(d.Least, least), min(d.Most, most))
}

// Both is the sets that are in both. Each lower bound is held against the upper one by itself, for together they may be too many for a set.
func Both(a, b api.Dom) api.Dom {
	a, b = taken(a), taken(b)
	up := Meet(a.Up, b.Up)
	if !Sub(a.Lo, up) || !Sub(b.Lo, up) {
		return none()
	}
	return tight(Join(a.Lo, b.Lo), up, max(a.Least, b.Least), min(a.Most, b.Most))
}

// Same: have they the same sets? Of these there is just one domain that is tight.
func Same(a, b api.Dom) bool {
	a, b = taken(a), taken(b)
	return slices.Equal(a.Lo, b.Lo) && slices.Equal(a.Up, b.Up) && a.Least == b.Least && a.Most == b.Most
}

// Each is all its sets, in their order.
func Each(d api.Dom) iter.Seq[[]int64] {
	d = taken(d)
	return func(yield func([]int64) bool) {
		if Empty(d) {
			return
		}
		w := &walk{d: d, must: shared(d.Up, d.Lo), yield: yield}
		w.from(begun{needed: len(d.Lo)})
	}
}
