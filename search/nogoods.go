package search

import (
	"slices"

	"jigsaw/api"
	"jigsaw/branch"
	"jigsaw/kinds"
)

// Nogoods is lists of decisions that are not all to hold together.
type Nogoods struct {
	l [][]branch.Dec
}

// New is no nogoods.
func New() *Nogoods {
	return &Nogoods{}
}

// Add is for one more.
func (n *Nogoods) Add(l ...branch.Dec) api.Errno {
	switch {
	case n == nil:
		return api.ErrNil
	case len(l) > api.MaxArray:
		return api.ErrSize
	case len(n.l) == api.MaxCons:
		return api.ErrFull
	case slices.ContainsFunc(l, noDecision):
		return api.ErrArg
	}
	n.l = append(n.l, slices.Clone(l))
	return api.OK
}

func noDecision(x branch.Dec) bool {
	return x.Op < branch.Eq || x.Op > branch.Out
}

// Len is how many there are.
func (n *Nogoods) Len() int {
	if n == nil {
		return 0
	}
	return len(n.l)
}

// Holds: is each one kept by values?
func (n *Nogoods) Holds(v []api.Val) bool {
	if n == nil {
		return true
	}
	broken := func(x branch.Dec) bool {
		return x.Var < 0 || x.Var >= len(v) || !branch.Holds(x, v[x.Var])
	}
	return !slices.ContainsFunc(n.l, func(l []branch.Dec) bool { return !slices.ContainsFunc(l, broken) })
}

// Prune is domains without the values that only break a nogood.
func (n *Nogoods) Prune(d []api.Dom) ([]api.Dom, int, api.Errno) {
	out := make([]api.Dom, len(d))
	for v, x := range d {
		out[v] = kinds.Copy(x)
	}
	switch {
	case n == nil:
		return out, api.Same, api.OK
	case slices.ContainsFunc(d, func(x api.Dom) bool { return !kinds.Right(x) }):
		return nil, 0, api.ErrDom
	case slices.ContainsFunc(d, kinds.Empty):
		return nil, api.Fail, api.OK
	}
	work, ok := n.fixed(d)
	if !ok {
		return nil, api.Fail, api.OK
	}
	what := api.Same
	for v, x := range work {
		if !kinds.Same(x, d[v]) {
			out[v], what = x, api.Less
		}
	}
	return out, what, api.OK
}

// fixed is domains, none of which is empty, pruned until nothing changes, sets' ones made tight; false, if nothing is left. The nogoods are gone through up and down by turns: what goes from one to the next, in either direction, comes to the end at once.
func (n *Nogoods) fixed(d []api.Dom) ([]api.Dom, bool) {
	work := make([]api.Dom, len(d))
	for v, x := range d {
		work[v] = kinds.Both(x, x)
	}
	left := n.l
	for changed := true; changed; {
		var ok bool
		if left, changed, ok = pass(left, work); !ok {
			return nil, false
		}
		slices.Reverse(left)
	}
	return work, true
}

// pass lets each nogood prune once. It answers a new list of those that may have more to say, and whether something changed; false, if nothing is left.
func pass(l [][]branch.Dec, d []api.Dom) (left [][]branch.Dec, changed, ok bool) {
	for _, nogood := range l {
		x, how := lone(nogood, d)
		if how == broken {
			return nil, false, false
		}
		if how == last {
			next, _ := branch.Apply(d[x.Var], branch.Not(x))
			if !kinds.Same(d[x.Var], next) {
				d[x.Var], changed = next, true
				continue
			}
			how = unsure // for there would be too many ranges
		}
		if how == unsure {
			left = append(left, nogood)
		}
	}
	return left, changed, true
}

// What a nogood is, by domains.
const (
	kept   = iota // one of its decisions holds of no value
	broken        // of all values all of them do
	last          // of all values all of them do but one
	unsure
)

// lone is the only decision of a nogood that does not hold of all values, if there is just one.
func lone(nogood []branch.Dec, d []api.Dom) (branch.Dec, int) {
	var only branch.Dec
	how := broken
	for _, x := range nogood {
		all, none := spread(x, d)
		switch {
		case none:
			return branch.Dec{}, kept
		case all || how == last && x == only: // the same one twice says no more than once
		case how == broken:
			only, how = x, last
		default:
			return branch.Dec{}, unsure
		}
	}
	return only, how
}

// spread tells whether a decision holds of all values of its variable, and whether it does of none. Of a variable that there is not, or of the other kind, it does not hold.
func spread(x branch.Dec, d []api.Dom) (all, none bool) {
	if x.Var < 0 || x.Var >= len(d) || d[x.Var].Set != (x.Op >= branch.In) {
		return false, true
	}
	if x.Op%2 == 1 { // it holds where its other one does not
		none, all = spread(branch.Not(x), d)
		return all, none
	}
	if d[x.Var].Set {
		return spreadSet(x.N, d[x.Var])
	}
	l := d[x.Var].R
	least, most := l[0].Lo, l[len(l)-1].Hi
	if x.Op == branch.Le {
		return most <= x.N, least > x.N
	}
	return least == x.N && most == x.N, !has(l, x.N)
}

// has: is v a value of right ranges? It is found by halves, for this is asked most often.
func has(l []api.Range, v int64) bool {
	_, found := slices.BinarySearchFunc(l, v, func(r api.Range, v int64) int {
		switch {
		case r.Hi < v:
			return -1
		case r.Lo > v:
			return 1
		}
		return 0
	})
	return found
}

// spreadSet tells whether an element is in all sets of a tight domain that has some, and whether it is in none.
func spreadSet(n int64, d api.Dom) (all, none bool) {
	_, all = slices.BinarySearch(d.Lo, n)
	_, some := slices.BinarySearch(d.Up, n)
	return all, !some
}
