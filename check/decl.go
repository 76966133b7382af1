package check

import (
	"slices"

	"jigsaw/api"
	"jigsaw/cons"
	"jigsaw/dom"
)

// declareAll takes declarations in, one by one: each is asked by the names ahead of it alone.
func (e *Env) declareAll(l []api.Decl) error {
	for i, d := range l {
		if err := e.declare(d); err != nil {
			return fault{decl: i, why: err}
		}
	}
	return nil
}

// declare takes one declaration in.
func (e *Env) declare(d api.Decl) error {
	if _, ok := e.known[d.Name]; ok {
		return errTwice
	}
	if err := wrongType(d.Type); err != nil {
		return err
	}
	terms, err := e.value(d)
	if err != nil {
		return err
	}
	if single(d.Type) {
		terms = []api.Term{e.variable(d.Type, terms)}
	}
	e.names = append(e.names, d.Name)
	e.known[d.Name] = meaning{kind: d.Type.Kind, array: d.Type.Array, terms: terms}
	return nil
}

// single: is it a variable's type, and not that of an array of them?
func single(t api.Type) bool {
	return t.Var && !t.Array
}

// wrongType is what is wrong with a type, whatever the value is.
func wrongType(t api.Type) error {
	switch {
	case t.Kind != api.YBool && t.Kind != api.YInt && t.Kind != api.YSet:
		return errType
	case t.Var && t.Array && t.Full:
		return errMore
	case single(t) && t.Kind == api.YSet && (!t.Full || dom.Size(t.Dom) > api.MaxElems):
		return errMore
	case t.Full && !dom.Right(t.Dom):
		return errType
	}
	return nil
}

// value is the terms of a declaration's value: none, if it is a variable without one.
func (e *Env) value(d api.Decl) ([]api.Term, error) {
	things := []api.Expr{d.Value}
	switch {
	case !d.Has && single(d.Type):
		return nil, nil
	case !d.Has:
		return nil, errType
	case d.Type.Array && (d.Value.Kind != api.EArray || int64(len(d.Value.L)) != d.Type.Size):
		return nil, errType
	case d.Type.Array:
		things = d.Value.L
	}
	return e.terms(things, place{kind: d.Type.Kind, vars: d.Type.Var, full: d.Type.Full, dom: d.Type.Dom})
}

// variable is the next variable, of that type; its value, if it has one, is a constraint more.
func (e *Env) variable(t api.Type, value []api.Term) api.Term {
	out := cons.Var(len(e.vars))
	e.vars = append(e.vars, domain(t))
	e.sets = append(e.sets, t.Kind == api.YSet)
	for _, v := range value {
		e.extra = append(e.extra, api.Con{Name: equal(t.Kind), Args: []api.Arg{cons.One(out), cons.One(v)}})
	}
	return out
}

// domain is all values of a variable's type. That of a set is tight as it stands: no element must be in it, and all may.
func domain(t api.Type) api.Dom {
	switch {
	case t.Kind == api.YBool:
		return api.Dom{R: []api.Range{{Lo: 0, Hi: 1}}}
	case t.Kind == api.YSet:
		up := slices.Collect(dom.Each(t.Dom))
		return api.Dom{Set: true, Up: up, Most: len(up)}
	case t.Full:
		return api.Dom{R: slices.Clone(t.Dom)}
	}
	return api.Dom{R: []api.Range{{Lo: -api.Big, Hi: api.Big}}}
}

// equal is the constraint by which two things of a kind are the same.
func equal(kind int) string {
	switch kind {
	case api.YBool:
		return "bool_eq"
	case api.YInt:
		return "int_eq"
	}
	return "set_eq"
}
