package matching

import "slices"

// knots is how the terms of a graph, each of which has a value, hang together: a term leads to those whose values it may have. Terms that lead to each other are a knot: round it they can hand on their values. One that leads to a free value is loose: it can leave its value to anyone.
type knots struct {
	*graph
	knot  []int  // of each term the first one of its knot
	loose []bool // of each term

	order []int // of each term when it was come to, from 1 on; 0: not yet
	low   []int // of each term the first one that it leads to, by that order, as far as it is known
	open  []int // those whose knots are not known yet, in that order
	next  int
}

// undone is the knot of a term that is not known yet.
const undone = -1

func (g *graph) knots() *knots {
	n := len(g.values)
	k := &knots{graph: g, knot: make([]int, n), loose: make([]bool, n), order: make([]int, n), low: make([]int, n)}
	for x := range k.knot {
		k.knot[x] = undone
	}
	for x := range k.knot {
		if k.order[x] == 0 {
			k.visit(x)
		}
	}
	return k
}

// visit follows a term to all that it leads to; if it is the first one of its knot, that is known then.
func (k *knots) visit(x int) {
	k.next++
	k.order[x], k.low[x] = k.next, k.next
	k.open = append(k.open, x)
	for _, v := range k.values[x] {
		y := k.owner[v]
		if y == nobody {
			k.loose[x] = true
			continue
		}
		if k.order[y] == 0 {
			k.visit(y)
		}
		if k.knot[y] == undone {
			k.low[x] = min(k.low[x], k.low[y])
		} else if k.loose[y] {
			k.loose[x] = true
		}
	}
	if k.low[x] == k.order[x] {
		k.tie(x)
	}
}

// tie makes a knot of all that are open from a term on. If one of them is loose, all are.
func (k *knots) tie(first int) {
	at := slices.Index(k.open, first)
	members := k.open[at:]
	k.open = k.open[:at]
	loose := slices.ContainsFunc(members, func(x int) bool { return k.loose[x] })
	for _, x := range members {
		k.knot[x], k.loose[x] = first, loose
	}
}

// possible is the values that a term has in some choice: free ones, those that their owners can leave, and those that are handed on within its knot.
func (k *knots) possible(x int) []int64 {
	var out []int64
	for _, v := range k.values[x] {
		if y := k.owner[v]; y == nobody || k.loose[y] || k.knot[y] == k.knot[x] {
			out = append(out, k.is[v])
		}
	}
	return out
}

// taken is the values that no term but one of the graph has in any choice, rising.
func (k *knots) taken() []int64 {
	var out []int64
	for v, y := range k.owner {
		if y != nobody && !k.loose[y] {
			out = append(out, k.is[v])
		}
	}
	slices.Sort(out)
	return out
}
