package post

import (
	"slices"

	"jigsaw/api"
	"jigsaw/cons"
	"jigsaw/kinds"
	"jigsaw/prune"
)

// Right: can a problem be?
func Right(p api.Problem) api.Errno {
	switch {
	case len(p.Vars) > api.MaxVars || len(p.Cons) > api.MaxCons:
		return api.ErrFull
	case slices.ContainsFunc(p.Vars, wrongDom):
		return api.ErrDom
	}
	if e := rightCons(p); e != api.OK {
		return e
	}
	switch {
	case !rightGoal(p) || slices.ContainsFunc(p.Phases, wrongPhase(p)):
		return api.ErrArg
	case slices.ContainsFunc(p.Outs, wrongOut(p)):
		return api.ErrOut
	}
	return api.OK
}

func wrongDom(d api.Dom) bool {
	return !kinds.Right(d)
}

// rightCons is the error of the first constraint that can not be.
func rightCons(p api.Problem) api.Errno {
	sets := make([]bool, len(p.Vars))
	for i, d := range p.Vars {
		sets[i] = d.Set
	}
	for _, c := range p.Cons {
		if e := cons.Right(c, sets); e != api.OK {
			return e
		}
	}
	return api.OK
}

// known: is there a variable of that number?
func known(p api.Problem, v int) bool {
	return v >= 0 && v < len(p.Vars)
}

func rightGoal(p api.Problem) bool {
	switch p.Goal {
	case api.Satisfy:
		return p.Of == 0
	case api.Minimize, api.Maximize:
		return known(p, p.Of) && !p.Vars[p.Of].Set
	}
	return false
}

// wrongPhase asks of a phase of p: is there something in it that there is not?
func wrongPhase(p api.Problem) func(api.Phase) bool {
	return func(f api.Phase) bool {
		for _, v := range f.Vars {
			if !known(p, v) {
				return true
			}
		}
		return f.Select < api.VInput || f.Select > api.VRandom || f.Value < api.WMin || f.Value > api.WRandom
	}
}

// wrongOut asks of an output of p: is a term of it neither a constant nor a variable of p?
func wrongOut(p api.Problem) func(api.Out) bool {
	return func(o api.Out) bool {
		for _, t := range o.L {
			if t.Var != -1 && !known(p, t.Var) {
				return true
			}
		}
		return false
	}
}

// Solves: is an assignment a solution of a problem?
func Solves(p api.Problem, v []api.Val) (bool, api.Errno) {
	if e := Right(p); e != api.OK {
		return false, e
	}
	if len(v) != len(p.Vars) {
		return false, api.ErrArg
	}
	for i, d := range p.Vars {
		if v[i].Set != d.Set || !kinds.RightVal(v[i]) || !kinds.Has(d, v[i]) {
			return false, api.OK
		}
	}
	broken, e := prune.Check(p.Cons, v)
	return broken < 0 && e == api.OK, e
}

// Value is the value that the goal is of.
func Value(p api.Problem, v []api.Val) (int64, api.Errno) {
	switch {
	case p.Goal != api.Minimize && p.Goal != api.Maximize:
		return 0, api.ErrArg
	case p.Of < 0 || p.Of >= len(v) || v[p.Of].Set:
		return 0, api.ErrArg
	}
	return v[p.Of].N, api.OK
}

// Better: is a better than b by a goal?
func Better(goal int, a, b int64) bool {
	switch goal {
	case api.Minimize:
		return a < b
	case api.Maximize:
		return a > b
	}
	return false
}
