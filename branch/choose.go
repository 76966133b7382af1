package branch

import (
	"iter"
	"slices"

	"jigsaw/api"
	"jigsaw/dom"
	"jigsaw/kinds"
	"jigsaw/sets"
)

// best is the first of those offered whose rank is the least.
type best[T any] struct {
	it    T
	rank  int64
	there bool
}

func (b *best[T]) offer(x T, rank int64) {
	if !b.there || rank < b.rank {
		b.it, b.rank, b.there = x, rank, true
	}
}

// several: can a domain be, and has it more than one value?
func several(d api.Dom) bool {
	if !kinds.Right(d) || kinds.Empty(d) {
		return false
	}
	_, one := kinds.Only(d)
	return !one
}

// Open is the numbers of the variables that have several values, rising. They are those at the time of the call: what is written into d later plays no part.
func Open(d []api.Dom) iter.Seq[int] {
	var l []int
	for v := range d {
		l = append(l, v)
	}
	return slices.Values(slices.Collect(openOf(l, d)))
}

// openOf is those of some variables that there are, and that have several values, in their order.
func openOf(l []int, d []api.Dom) iter.Seq[int] {
	return func(yield func(int) bool) {
		for _, v := range l {
			if v >= 0 && v < len(d) && several(d[v]) && !yield(v) {
				return
			}
		}
	}
}

// Choose is the next decision; false, if no variable has several values.
func Choose(l []api.Phase, d []api.Dom, r *Draws) (Dec, bool) {
	p := next(l, d)
	if len(p.Vars) == 0 {
		return Dec{}, false
	}
	v := which(p, d, r)
	if d[v].Set {
		op, n := element(p.Value, d[v], r)
		return Dec{Var: v, Op: op, N: n}, true
	}
	op, n := number(p.Value, d[v].R, r)
	return Dec{Var: v, Op: op, N: n}, true
}

// next is the first phase that has variables with several values, with these alone; behind all phases that of all variables.
func next(l []api.Phase, d []api.Dom) api.Phase {
	var out api.Phase
phases:
	for _, p := range l {
		for range openOf(p.Vars, d) {
			out = p
			break phases
		}
	}
	if len(out.Vars) == 0 {
		return api.Phase{Vars: slices.Collect(Open(d)), Select: api.VInput, Value: api.WMin}
	}
	out.Vars = slices.Collect(openOf(out.Vars, d))
	return out
}

// which is the variable that a phase's selector takes of its variables, all of which have several values.
func which(p api.Phase, d []api.Dom, r *Draws) int {
	if p.Select == api.VRandom {
		return p.Vars[r.Next(int64(len(p.Vars)))]
	}
	var b best[int]
	for _, v := range p.Vars {
		b.offer(v, rank(p.Select, d[v]))
	}
	return b.it
}

// rank is a number that is the less, the sooner a selector takes a variable of that domain. A selector that is none takes the first one.
func rank(how int, d api.Dom) int64 {
	switch how {
	case api.VFirst:
		return kinds.Size(d)
	case api.VAnti:
		return -kinds.Size(d)
	case api.VLeast:
		least, _ := ends(d)
		return least
	case api.VMost:
		_, most := ends(d)
		return -most
	}
	return 0
}

// ends is the least and the greatest value of a domain that has several; of a set's those of the elements that may be there or not.
func ends(d api.Dom) (int64, int64) {
	if d.Set {
		l := sets.Less(d.Up, d.Lo)
		return l[0], l[len(l)-1]
	}
	return d.R[0].Lo, d.R[len(d.R)-1].Hi
}

// number is what is tried of a whole number with several values.
func number(how int, l []api.Range, r *Draws) (int, int64) {
	least, most := ends(api.Dom{R: l})
	middle := (least + most) >> 1 // down, of numbers below 0, too
	switch how {
	case api.WMax:
		return Eq, most
	case api.WMedian:
		return Eq, nth(l, (dom.Size(l)-1)/2)
	case api.WSplit:
		return Le, middle
	case api.WBack:
		return Gt, middle
	case api.WRandom:
		return Eq, nth(l, r.Next(dom.Size(l)))
	}
	return Eq, least
}

// nth is the value of that number, 0 the least, of ranges that have more values than that.
func nth(l []api.Range, n int64) int64 {
	for _, x := range l {
		size := x.Hi - x.Lo + 1
		if n < size {
			return x.Lo + n
		}
		n -= size
	}
	return 0
}

// element is what is tried of a set with several values.
func element(how int, d api.Dom, r *Draws) (int, int64) {
	l := sets.Less(d.Up, d.Lo)
	switch how {
	case api.WMax, api.WBack:
		return In, l[len(l)-1]
	case api.WRandom:
		return In, l[r.Next(int64(len(l)))]
	}
	return In, l[0]
}
