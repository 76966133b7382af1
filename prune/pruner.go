package prune

import (
	"slices"

	"jigsaw/api"
	"jigsaw/cons"
)

// pruner is what a constraint is to those who let several prune.
type pruner interface {
	// over is its variables, rising.
	over() []int
	// ask is its answer to the domains of all variables.
	ask(all []api.Dom) answer
}

// answer is one of left, nothing, unsaid.
type answer any

type (
	// left is what is left of the domains of the pruner's variables, perhaps all of it.
	left []api.Dom
	// nothing is left.
	nothing struct{}
	// unsaid: nothing can be said.
	unsaid struct{ why api.Errno }
)

// posted is a constraint with its variables numbered from 0 on, so that its family is handed their domains alone. By the promises of the families the numbers play no part; their order is kept.
type posted struct {
	layer
	con  api.Con
	vars []int
}

// post is a constraint that can be.
func post(c api.Con) posted {
	l, _ := layerOf(c.Name)
	p := posted{layer: l, con: cons.Copy(c), vars: cons.Vars(c)}
	for _, a := range p.con.Args {
		for i, t := range a.L {
			if t.Var >= 0 {
				a.L[i].Var, _ = slices.BinarySearch(p.vars, t.Var)
			}
		}
	}
	return p
}

func (p posted) over() []int {
	return p.vars
}

func (p posted) ask(all []api.Dom) answer {
	own := make([]api.Dom, len(p.vars))
	for i, v := range p.vars {
		own[i] = all[v]
	}
	d, what, e := p.prune(p.con, own)
	switch {
	case e != api.OK:
		return unsaid{e}
	case what == api.Fail:
		return nothing{}
	}
	return left(d)
}
