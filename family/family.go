// Package family has what all families of constraints (layers 7 to 13) have in common: what they refuse, how they decide where at most one variable is left, and how they tell what became of the domains. What is a family's own stands in its Rules.
package family

import (
	"strings"

	"jigsaw/api"
	"jigsaw/cons"
	"jigsaw/kinds"
)

// Test says of values if one constraint holds; ErrOver, where it can not be said.
type Test func(v []api.Val) (bool, api.Errno)

// Rules is what a family says of its constraints. It is asked of constraints of its own that can be, of values and domains that can be, none of them empty, and of truths that are 0 or 1.
type Rules struct {
	Name string // its package
	Test func(c api.Con) Test
	// Narrow takes values away. Each assignment of which c holds, or of which it can not be said, must stay; so it answers ErrOver only where it can be said of none.
	Narrow func(c api.Con, d *Doms) api.Errno
}

// Holds: does a constraint hold of values?
func Holds(r Rules, c api.Con, v []api.Val) (bool, api.Errno) {
	if e := refused(r, c, kindsOf(v, func(x api.Val) bool { return x.Set })); e != api.OK {
		return false, e
	}
	for _, n := range cons.Vars(c) {
		if !kinds.RightVal(v[n]) {
			return false, api.ErrArg
		}
	}
	for _, t := range truths(c) {
		if x, _ := cons.Of(t, v); x.N != 0 && x.N != 1 {
			return false, api.OK
		}
	}
	return r.Test(c)(v)
}

// Prune is the domains without what can not be, and what became of them.
func Prune(r Rules, c api.Con, d []api.Dom) ([]api.Dom, int, api.Errno) {
	if e := refused(r, c, kindsOf(d, func(x api.Dom) bool { return x.Set })); e != api.OK {
		return nil, 0, e
	}
	vars := cons.Vars(c)
	for _, n := range vars {
		if !kinds.Right(d[n]) {
			return nil, 0, api.ErrDom
		}
	}
	work := begin(d, vars)
	switch e := work.prune(r, c, vars); {
	case work.failed:
		return nil, api.Fail, api.OK
	case e != api.OK:
		return nil, 0, e
	}
	return work.l, change(d, work.l, vars), api.OK
}

// prune takes away what the truths, the family's rules, and at last the only variable that is left have too much.
func (d *Doms) prune(r Rules, c api.Con, vars []int) api.Errno {
	for _, t := range truths(c) {
		d.Cut(t, 0, 1)
	}
	if d.failed {
		return api.OK
	}
	if e := r.Narrow(c, d); e != api.OK || d.failed {
		return e
	}
	return d.settle(r.Test(c), vars)
}

// refused is the error of a constraint that is none of that family, or can not be of these variables.
func refused(r Rules, c api.Con, sets []bool) api.Errno {
	if cons.Family(c.Name) != r.Name {
		return api.ErrKind
	}
	return cons.Right(c, sets)
}

// kindsOf tells of each variable whether it is a set.
func kindsOf[T any](l []T, isSet func(T) bool) []bool {
	out := make([]bool, len(l))
	for i, x := range l {
		out[i] = isSet(x)
	}
	return out
}

// truths is the terms of a constraint that can be that stand where a truth may be a variable.
func truths(c api.Con) []api.Term {
	var out []api.Term
	for i, part := range strings.Split(cons.Form(c.Name), ",") {
		if strings.HasSuffix(part, "B") {
			out = append(out, c.Args[i].L...)
		}
	}
	return out
}

// change is what became of the domains of some variables.
func change(old, next []api.Dom, vars []int) int {
	for _, n := range vars {
		if !kinds.Same(old[n], next[n]) {
			return api.Less
		}
	}
	return api.Same
}
