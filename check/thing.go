package check

import (
	"slices"
	"strings"

	"jigsaw/api"
	"jigsaw/cons"
	"jigsaw/dom"
)

// place is where a thing stands: which things are taken there.
type place struct {
	kind int
	vars bool        // may variables stand there, or constants alone?
	full bool        // must a constant be of dom?
	dom  []api.Range // right ranges
}

// takes: may a thing of that kind stand there?
func (p place) takes(kind int, t api.Term) bool {
	switch {
	case kind != p.kind:
		return false
	case t.Var >= 0:
		return p.vars
	}
	switch kind {
	case api.YInt:
		return p.bounded(t.C.N) && p.has(t.C.N)
	case api.YSet:
		return !slices.ContainsFunc(t.C.S, p.lacks)
	}
	return true
}

// bounded: is a constant whole number one that may stand there? Where a variable may stand it is no greater than its values.
func (p place) bounded(n int64) bool {
	if p.vars {
		return -api.Big <= n && n <= api.Big
	}
	return -api.Coef <= n && n <= api.Coef
}

func (p place) has(n int64) bool {
	return !p.full || dom.Has(p.dom, n)
}

func (p place) lacks(n int64) bool {
	return !p.has(n)
}

// placeOf is the place of a form's letter; false, if there is no such letter.
func placeOf(letter string) (place, bool) {
	switch letter {
	case "b":
		return place{kind: api.YBool}, true
	case "i":
		return place{kind: api.YInt}, true
	case "s":
		return place{kind: api.YSet}, true
	case "B":
		return place{kind: api.YBool, vars: true}, true
	case "I":
		return place{kind: api.YInt, vars: true}, true
	case "S":
		return place{kind: api.YSet, vars: true}, true
	}
	return place{}, false
}

// argument is an expression as an argument of a form.
func (e *Env) argument(x api.Expr, form string) (api.Arg, error) {
	letter, array := strings.CutPrefix(form, "a")
	p, ok := placeOf(letter)
	switch {
	case !ok:
		return api.Arg{}, errForm
	case array:
		l, err := e.list(x, p)
		if err != nil {
			return api.Arg{}, err
		}
		return cons.List(l...), nil
	}
	t, err := e.term(x, p)
	if err != nil {
		return api.Arg{}, err
	}
	return cons.One(t), nil
}

// list is the terms of an array's expression, each of which may stand at a place.
func (e *Env) list(x api.Expr, p place) ([]api.Term, error) {
	switch x.Kind {
	case api.EName:
		return e.listOf(x.Name, p)
	case api.EArray:
		if len(x.L) > api.MaxArray {
			return nil, errSize
		}
		return e.terms(x.L, p)
	}
	return nil, errType
}

// listOf is the terms of an array's name, each of which may stand at a place.
func (e *Env) listOf(name string, p place) ([]api.Term, error) {
	what, ok := e.known[name]
	switch {
	case !ok:
		return nil, errName
	case !what.array || what.kind != p.kind:
		return nil, errType
	}
	for _, t := range what.terms {
		if !p.takes(what.kind, t) {
			return nil, errType
		}
	}
	if len(what.terms) > api.MaxArray {
		return nil, errSize
	}
	return what.terms, nil
}

// terms is expressions as terms, each of which may stand at a place; the first one's error, if one can not.
func (e *Env) terms(l []api.Expr, p place) ([]api.Term, error) {
	out := make([]api.Term, len(l))
	for i, x := range l {
		t, err := e.term(x, p)
		if err != nil {
			return nil, err
		}
		out[i] = t
	}
	return out, nil
}

// term is an expression as a term that may stand at a place.
func (e *Env) term(x api.Expr, p place) (api.Term, error) {
	kind, t, err := e.thing(x)
	if err != nil {
		return api.Term{}, err
	}
	if !p.takes(kind, t) {
		return api.Term{}, errType
	}
	return t, nil
}

// thing is an expression's kind and term, wherever it stands.
func (e *Env) thing(x api.Expr) (int, api.Term, error) {
	switch x.Kind {
	case api.EBool:
		if x.N == 0 || x.N == 1 {
			return api.YBool, cons.Int(x.N), nil
		}
	case api.EInt:
		return api.YInt, cons.Int(x.N), nil
	case api.ERange:
		return rangeOf(x.N, x.M)
	case api.ESet:
		return setOf(x.L)
	case api.EName:
		return e.ofName(x.Name)
	case api.EAt:
		return e.ofElement(x.Name, x.N)
	}
	return 0, api.Term{}, errType
}

// rangeOf is the set of all values from one to another; of none it is empty, even if an end is beyond on the side where no value is.
func rangeOf(from, to int64) (int, api.Term, error) {
	switch {
	case from < -api.Big || to > api.Big:
		return 0, api.Term{}, errType
	case from > to:
		return api.YSet, cons.Set(), nil
	}
	return set([]api.Range{{Lo: from, Hi: to}})
}

// setOf is the set of some numbers, in any order, any number of times.
func setOf(l []api.Expr) (int, api.Term, error) {
	values := make([]int64, len(l))
	for i, x := range l {
		if x.Kind != api.EInt {
			return 0, api.Term{}, errType
		}
		values[i] = x.N
	}
	r, errno := dom.Of(values...)
	if errno != api.OK {
		return 0, api.Term{}, errType
	}
	return set(r)
}

// set is the set of all values of right ranges, if there are no more than a set may have.
func set(l []api.Range) (int, api.Term, error) {
	if dom.Size(l) > api.MaxElems {
		return 0, api.Term{}, errType
	}
	return api.YSet, cons.Set(slices.Collect(dom.Each(l))...), nil
}

// ofName is what a name of one thing is.
func (e *Env) ofName(name string) (int, api.Term, error) {
	what, ok := e.known[name]
	switch {
	case !ok:
		return 0, api.Term{}, errName
	case what.array:
		return 0, api.Term{}, errType
	}
	return what.kind, what.terms[0], nil
}

// ofElement is what an element of a name's array is, 1 the first.
func (e *Env) ofElement(name string, n int64) (int, api.Term, error) {
	what, ok := e.known[name]
	switch {
	case !ok:
		return 0, api.Term{}, errName
	case !what.array || n < 1 || n > int64(len(what.terms)):
		return 0, api.Term{}, errType
	}
	return what.kind, what.terms[n-1], nil
}
