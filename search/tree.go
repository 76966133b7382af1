package search

import (
	"jigsaw/api"
	"jigsaw/branch"
	"jigsaw/dom"
	"jigsaw/kinds"
	"jigsaw/post"
	"jigsaw/prune"
	"jigsaw/store"
)

// How a search goes.
const (
	going    = iota // there is more to look at
	finished        // nothing is left, or what was asked for is found
	stopped         // by a number that is beyond, or because no one asks for more
)

// level is a decision that is tried, and those tried behind it of which nothing is left: their other ones hold.
type level struct {
	x    branch.Dec
	gone []branch.Dec
}

// tree is what is gone through depth first, from all domains on or from a part of them.
type tree struct {
	*run
	store  *store.Store
	engine *prune.Engine
	tried  stack[level] // the lowest one has no decision
}

// newTree is a tree of a run's problem, which can be, so that nothing is refused.
func newTree(r *run) *tree {
	s, _ := store.New(r.problem.Vars)
	e, _ := prune.New(r.problem.Cons, s)
	return &tree{run: r, store: s, engine: e}
}

// begin is ahead of the first node.
func (t *tree) begin() {
	t.store.Push()
	t.tried.push(level{})
}

// end brings all domains back as they were.
func (t *tree) end() {
	for t.tried.height() > 0 {
		t.tried.pop()
		t.store.Pop()
	}
}

// step is one node, and the decision behind it.
func (t *tree) step() int {
	ok, e := t.visit()
	switch {
	case e != api.OK:
		t.why = e
		return stopped
	case ok && t.forth():
		return going
	case ok:
		v, _ := t.store.Solution()
		if how := t.tell(v); how != going {
			return how
		}
	}
	return t.back()
}

// visit lets constraints and nogoods prune, until nothing changes: is something left?
func (t *tree) visit() (bool, api.Errno) {
	t.nodes++
	t.improve()
	for {
		what, e := t.engine.Run()
		switch {
		case e != api.OK || what == api.Fail:
			return false, e
		case t.nogoods.Len() == 0:
			return true, api.OK
		}
		d, what, _ := t.nogoods.Prune(t.store.All())
		if what != api.Less {
			return what == api.Same, api.OK
		}
		for v, x := range d {
			t.store.Narrow(v, x)
		}
	}
}

// improve leaves the goal's variable just what is better than the best one. Beyond Big there is nothing.
func (t *tree) improve() {
	if t.best == nil {
		return
	}
	n, _ := post.Value(t.problem, t.best)
	lo, hi := n+1, int64(api.Big)
	if t.problem.Goal == api.Minimize {
		lo, hi = -api.Big, n-1
	}
	l, _ := dom.Span(lo, hi)
	t.store.Narrow(t.problem.Of, api.Dom{R: l})
}

// forth tries another decision; false, if all variables have one value.
func (t *tree) forth() bool {
	d := t.store.All()
	x, ok := branch.Choose(t.problem.Phases, d, t.draws)
	if !ok {
		return false
	}
	x = parting(d[x.Var], x)
	t.tried.push(level{x: x})
	t.store.Push()
	t.decide(x)
	return true
}

// parting is a decision that parts a domain. So does what is chosen, but for one value in the midst of a range, where without it there would be more ranges than there may be, so that it would stay: then the domain is cut there.
func parting(d api.Dom, x branch.Dec) branch.Dec {
	if len(d.R) < api.MaxRanges {
		return x
	}
	if other, _ := branch.Apply(d, branch.Not(x)); kinds.Same(other, d) {
		x.Op = branch.Le
	}
	return x
}

// back takes the last decision back, and tries its other one; finished, if there is none.
func (t *tree) back() int {
	if t.tried.height() == 1 {
		return finished
	}
	x := t.tried.pop().x
	t.store.Pop()
	if below := t.tried.top(); t.learns() && len(below.gone) < api.MaxCons { // there is no room for more of them
		below.gone = append(below.gone, x)
	}
	t.decide(branch.Not(x))
	return going
}

// decide leaves a variable the values of which a decision holds.
func (t *tree) decide(x branch.Dec) {
	d, _ := t.store.Get(x.Var)
	next, _ := branch.Apply(d, x)
	t.store.Narrow(x.Var, next)
}

// learn adds what is gone to the nogoods, as long as there is room: each decision of which nothing is left, with those that were tried ahead of it. Solutions that were there are told already, or not better than the best one.
func (t *tree) learn() {
	var ahead []branch.Dec
search:
	for i, l := range t.tried.l {
		if i > 0 {
			ahead = append(ahead, l.x)
		}
		for _, x := range l.gone {
			if t.nogoods.Add(append(ahead[:len(ahead):len(ahead)], x)...) != api.OK {
				break search
			}
		}
	}
}
