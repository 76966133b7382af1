package post

import (
	"slices"

	"jigsaw/api"
	"jigsaw/cons"
	"jigsaw/kinds"
)

// Same: are two problems alike, field by field? Lists of nothing are the same.
func Same(a, b api.Problem) bool {
	return a.Goal == b.Goal && a.Of == b.Of && slices.EqualFunc(a.Vars, b.Vars, sameDom) && slices.EqualFunc(a.Cons, b.Cons, cons.Same) &&
		slices.EqualFunc(a.Phases, b.Phases, samePhase) && slices.EqualFunc(a.Outs, b.Outs, sameOut)
}

func sameDom(a, b api.Dom) bool {
	return a.Set == b.Set && a.Least == b.Least && a.Most == b.Most && slices.Equal(a.R, b.R) && slices.Equal(a.Lo, b.Lo) && slices.Equal(a.Up, b.Up)
}

func samePhase(a, b api.Phase) bool {
	return a.Select == b.Select && a.Value == b.Value && slices.Equal(a.Vars, b.Vars)
}

func sameOut(a, b api.Out) bool {
	return a.Name == b.Name && a.Kind == b.Kind && a.One == b.One && slices.Equal(a.Dims, b.Dims) && slices.EqualFunc(a.L, b.L, sameTerm)
}

// sameTerm asks package cons, which compares terms as parts of constraints.
func sameTerm(a, b api.Term) bool {
	return cons.Same(api.Con{Args: []api.Arg{{L: []api.Term{a}}}}, api.Con{Args: []api.Arg{{L: []api.Term{b}}}})
}

// Copy is another problem as it is.
func Copy(p api.Problem) api.Problem {
	p.Vars = copies(p.Vars, kinds.Copy)
	p.Cons = copies(p.Cons, cons.Copy)
	p.Phases = copies(p.Phases, copyPhase)
	p.Outs = copies(p.Outs, copyOut)
	return p
}

// copies is a list of copies.
func copies[T any](l []T, copied func(T) T) []T {
	out := slices.Clone(l)
	for i, x := range out {
		out[i] = copied(x)
	}
	return out
}

func copyPhase(f api.Phase) api.Phase {
	f.Vars = slices.Clone(f.Vars)
	return f
}

func copyOut(o api.Out) api.Out {
	o.Dims, o.L = slices.Clone(o.Dims), cons.List(o.L...).L
	return o
}
