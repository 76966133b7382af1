package prune

import (
	"jigsaw/api"
	"jigsaw/kinds"
	"jigsaw/store"
)

// Engine is constraints over a store. What the store's domains were when nothing changed any more is kept: a constraint none of whose variables is another one since changes nothing now, whatever the store went through in between.
type Engine struct {
	net   network
	store *store.Store
	rest  []api.Dom // the domains when nothing changed any more
	done  int       // how many constraints, the first ones, there were then
	over  bool
}

// New is an engine of some constraints over a store.
func New(l []api.Con, s *store.Store) (*Engine, api.Errno) {
	if s == nil {
		return nil, api.ErrNil
	}
	if len(l) > api.MaxCons {
		return nil, api.ErrFull
	}
	var isSet []bool
	for _, d := range s.All() {
		isSet = append(isSet, d.Set)
	}
	e := &Engine{net: newNetwork(isSet), store: s}
	for _, c := range l {
		if err := e.net.add(c); err != api.OK {
			return nil, err
		}
	}
	return e, api.OK
}

// Add is for one more constraint, which has not pruned yet.
func (e *Engine) Add(c api.Con) api.Errno {
	if e == nil {
		return api.ErrNil
	}
	return e.net.add(c)
}

// Run lets the constraints prune the store's domains, until nothing changes. If nothing is left, or it comes upon a number that is beyond, these stay as they were.
func (e *Engine) Run() (int, api.Errno) {
	switch {
	case e == nil:
		return 0, api.ErrNil
	case e.over:
		return 0, api.ErrOver
	case e.store.Failed():
		return api.Fail, api.OK
	}
	w := e.net.begin(e.store.All())
	e.callChanged(w)
	what, err := w.run()
	if err != api.OK {
		e.over = true
		return 0, err
	}
	if what != api.Fail {
		e.settle(w)
	}
	return what, api.OK
}

// callChanged makes due what is over variables that are not as they were when nothing changed any more, and the constraints that were not there then.
func (e *Engine) callChanged(w *work) {
	for i := e.done; i < len(w.pruners); i++ {
		w.call(i)
	}
	for v, d := range e.rest {
		if !kinds.Same(d, w.doms[v]) {
			w.callOver(v)
		}
	}
}

// settle gives the store what is left, and keeps it.
func (e *Engine) settle(w *work) {
	for v, d := range w.doms {
		if w.changed[v] {
			e.store.Narrow(v, d)
		}
	}
	e.rest, e.done = w.doms, len(w.pruners)
}

// Over: did it come upon a number that is beyond?
func (e *Engine) Over() bool {
	return e != nil && e.over
}

// Len is how many constraints there are.
func (e *Engine) Len() int {
	if e == nil {
		return 0
	}
	return len(e.net.pruners)
}
