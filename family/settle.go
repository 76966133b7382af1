package family

import (
	"iter"

	"jigsaw/api"
	"jigsaw/dom"
	"jigsaw/kinds"
	"jigsaw/sets"
)

// settle decides the constraint, if each of its variables has one value, and tries each value of the only one that has several, if they are not too many.
func (d *Doms) settle(test Test, vars []int) api.Errno {
	values := make([]api.Val, len(d.l))
	open := -1
	for _, n := range vars {
		only, ok := kinds.Only(d.l[n])
		switch {
		case ok:
			values[n] = only
		case open >= 0:
			return api.OK
		default:
			open = n
		}
	}
	switch {
	case open < 0:
		return d.decide(test, values)
	case kinds.Size(d.l[open]) > api.MaxScan:
		return api.OK
	case d.l[open].Set:
		return d.trySets(test, values, open)
	}
	return d.tryNumbers(test, values, open)
}

func (d *Doms) decide(test Test, values []api.Val) api.Errno {
	ok, e := test(values)
	if e == api.OK && !ok {
		d.Fail()
	}
	return e
}

// tryNumbers leaves a variable just the numbers with which the constraint holds.
func (d *Doms) tryNumbers(test Test, values []api.Val, open int) api.Errno {
	good, e := those(dom.Each(d.l[open].R), func(n int64) (bool, api.Errno) {
		values[open] = api.Val{N: n}
		return test(values)
	})
	if e == api.OK {
		d.KeepOnly(api.Term{Var: open}, good)
	}
	return e
}

// trySets leaves a variable the smallest domain that has all sets with which the constraint holds.
func (d *Doms) trySets(test Test, values []api.Val, open int) api.Errno {
	good, e := those(sets.Each(d.l[open]), func(l []int64) (bool, api.Errno) {
		values[open] = api.Val{Set: true, S: l}
		return test(values)
	})
	if e == api.OK {
		d.KeepSets(api.Term{Var: open}, good)
	}
	return e
}

// those is all of which that is so; an error, if of one of them it can not be said.
func those[T any](all iter.Seq[T], so func(T) (bool, api.Errno)) ([]T, api.Errno) {
	var out []T
	for x := range all {
		ok, e := so(x)
		switch {
		case e != api.OK:
			return nil, e
		case ok:
			out = append(out, x)
		}
	}
	return out, api.OK
}

// KeepSets leaves a set the smallest domain that has these sets, each of which it has.
func (d *Doms) KeepSets(t api.Term, l [][]int64) {
	if len(l) == 0 {
		d.Fail()
		return
	}
	all, some, least, most := l[0], l[0], len(l[0]), len(l[0])
	for _, s := range l {
		all, some = sets.Meet(all, s), sets.Join(some, s)
		least, most = min(least, len(s)), max(most, len(s))
	}
	if o, e := sets.Of(all, some, least, most); e == api.OK {
		d.Keep(t, o)
	}
}
