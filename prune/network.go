package prune

import (
	"iter"

	"jigsaw/api"
	"jigsaw/cons"
	"jigsaw/kinds"
)

// network is constraints over the same variables.
type network struct {
	isSet   []bool // of each variable
	pruners []pruner
	of      [][]int // of each variable the constraints that are over it
}

func newNetwork(isSet []bool) network {
	return network{isSet: isSet, of: make([][]int, len(isSet))}
}

// add is for one more constraint.
func (n *network) add(c api.Con) api.Errno {
	if len(n.pruners) == api.MaxCons {
		return api.ErrFull
	}
	if e := cons.Right(c, n.isSet); e != api.OK {
		return e
	}
	n.join(post(c))
	return api.OK
}

func (n *network) join(p pruner) {
	for _, v := range p.over() {
		n.of[v] = append(n.of[v], len(n.pruners))
	}
	n.pruners = append(n.pruners, p)
}

// work is domains while the constraints of a network prune them.
type work struct {
	*network
	doms    []api.Dom
	changed []bool // of each variable
	due     []bool // of each constraint: must it be asked?
	calls   int    // how many are due
}

// begin is work on domains, which are written into. No constraint is due yet.
func (n *network) begin(d []api.Dom) *work {
	return &work{network: n, doms: d, changed: make([]bool, len(d)), due: make([]bool, len(n.pruners))}
}

// call makes a constraint due.
func (w *work) call(i int) {
	if !w.due[i] {
		w.due[i] = true
		w.calls++
	}
}

// callOver makes all constraints over a variable due.
func (w *work) callOver(v int) {
	for _, i := range w.of[v] {
		w.call(i)
	}
}

// run asks the constraints that are due, until none is. They are gone through up and down by turns: what goes from one to the next, in either direction, comes to the end at once.
func (w *work) run() (int, api.Errno) {
	for up := true; w.calls > 0; up = !up {
		for i := range w.round(up) {
			switch a := w.pruners[i].ask(w.doms).(type) {
			case nothing:
				return api.Fail, api.OK
			case unsaid:
				return 0, a.why
			case left:
				w.take(i, a)
			}
		}
	}
	for _, c := range w.changed {
		if c {
			return api.Less, api.OK
		}
	}
	return api.Same, api.OK
}

// round is the constraints that are due, one by one, up or down; each is due no more, unless it is called again.
func (w *work) round(up bool) iter.Seq[int] {
	return func(yield func(int) bool) {
		for k := range w.due {
			i := k
			if !up {
				i = len(w.due) - 1 - k
			}
			if !w.due[i] {
				continue
			}
			w.due[i] = false
			w.calls--
			if !yield(i) {
				return
			}
		}
	}
}

// take is for what a constraint left: whatever is over a variable that became smaller is due, that constraint, too.
func (w *work) take(i int, l left) {
	for k, v := range w.pruners[i].over() {
		smaller := !kinds.Same(w.doms[v], l[k])
		w.doms[v] = l[k]
		if smaller {
			w.changed[v] = true
			w.callOver(v)
		}
	}
}
