package search

import (
	"slices"

	"jigsaw/api"
)

// nearNodes is the most nodes of one neighbourhood.
const nearNodes = 100

// neighbourhoods is those of the best solution: some variables keep its values there, the others are free.
type neighbourhoods struct {
	*tree
	vars  []int // those that may keep their values, each once
	fixed int   // how many of them do
	turn  int   // how many neighbourhoods were looked at
	idle  int   // how many of these, one behind the other, at last, had nothing better
	used  int64 // how many nodes they took
}

// newNeighbourhoods is the neighbourhoods of a run; nil, if it looks at none.
func newNeighbourhoods(r *run) *neighbourhoods {
	if r.options.Lns == 0 || r.problem.Goal == api.Satisfy {
		return nil
	}
	n := &neighbourhoods{tree: newTree(r), vars: keeping(r.problem)}
	n.fixed = len(n.vars) * r.options.Lns / 100
	return n
}

// keeping is the variables that may keep their values: those of the phases, or, if there are none, all; but never the goal's, for it must change.
func keeping(p api.Problem) []int {
	var l []int
	for _, f := range p.Phases {
		l = append(l, f.Vars...)
	}
	if len(l) == 0 {
		for v := range p.Vars {
			l = append(l, v)
		}
	}
	slices.Sort(l)
	return slices.DeleteFunc(slices.Compact(l), func(v int) bool { return v == p.Of })
}

// quiet: are there no neighbourhoods to look at, as long as no better solution is found? Once as many as there are variables had nothing, the others are as they are.
func (n *neighbourhoods) quiet() bool {
	return n == nil || n.best == nil || n.fixed == len(n.vars) || n.idle >= len(n.vars)
}

// look is one neighbourhood, if it is its turn: together they take no more nodes than the rest of the search, but for the last one.
func (n *neighbourhoods) look() int {
	if n.quiet() || 2*n.used > n.nodes {
		return going
	}
	before, found := n.nodes, n.found
	n.begin()
	n.fix()
	n.turn++
	how := going
	for k := 0; k < nearNodes && how == going && n.found == found && n.left() > 0; k++ {
		how = n.step()
	}
	n.end()
	n.used += n.nodes - before
	n.idle++
	if n.found > found {
		n.idle = 0
	}
	if how == stopped {
		return stopped
	}
	return going // a neighbourhood that is finished is not all
}

// fix lets some variables, one behind the other, keep the best solution's values. The first of the others is drawn, and moves on with each turn.
func (n *neighbourhoods) fix() {
	size := len(n.vars)
	free := size - n.fixed
	from := int(n.draws.Next(int64(size))) + n.turn%size*free + free
	for k := range n.fixed {
		v := n.vars[(from+k)%size]
		n.store.Narrow(v, only(n.best[v]))
	}
}
