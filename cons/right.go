package cons

import (
	"slices"
	"strings"

	"jigsaw/api"
	"jigsaw/dom"
)

// place is where a term may stand: which terms are taken there.
type place struct {
	vars  []bool // of each variable that may stand there, whether it is a set; none, where a constant must stand
	set   bool   // sets stand there, or numbers
	least int64  // the least number
	most  int64  // the greatest one
}

// placeOf is the place of a letter of a form.
func placeOf(letter string, vars []bool) place {
	switch letter {
	case "i":
		return place{least: -api.Coef, most: api.Coef}
	case "b":
		return place{most: 1}
	case "s":
		return place{set: true}
	case "I":
		return place{vars: vars, least: -api.Big, most: api.Big}
	case "B":
		return place{vars: vars, most: 1}
	}
	return place{vars: vars, set: true}
}

// takes: may that term stand there?
func (p place) takes(t api.Term) bool {
	zero := !t.C.Set && t.C.N == 0 && len(t.C.S) == 0
	switch {
	case t.Var != constant:
		return t.Var >= 0 && t.Var < len(p.vars) && p.vars[t.Var] == p.set && zero
	case p.set:
		return t.C.Set && t.C.N == 0 && isSet(t.C.S)
	}
	return !t.C.Set && len(t.C.S) == 0 && p.least <= t.C.N && t.C.N <= p.most
}

// isSet: are values a set: of values that can be, rising, none twice?
func isSet(l []int64) bool {
	if len(l) > api.MaxElems {
		return false
	}
	r, e := dom.Of(l...)
	return e == api.OK && slices.IsSorted(l) && dom.Size(r) == int64(len(l))
}

// Right: can a constraint be, of so many variables, sets or not?
func Right(c api.Con, sets []bool) api.Errno {
	form := Form(c.Name)
	if form == "" {
		return api.ErrKind
	}
	parts := strings.Split(form, ",")
	switch {
	case !slices.EqualFunc(c.Args, parts, shaped):
		return api.ErrCon
	case slices.ContainsFunc(c.Args, tooLong):
		return api.ErrSize
	case !allTaken(c.Args, parts, sets) || !fits(c):
		return api.ErrCon
	}
	return api.OK
}

// shaped: is an argument an array where that part of the form says so, and else one term?
func shaped(a api.Arg, part string) bool {
	array := strings.HasPrefix(part, "a")
	return a.Array == array && (array || len(a.L) == 1)
}

func tooLong(a api.Arg) bool {
	return len(a.L) > api.MaxArray
}

// allTaken: may each term stand where it stands?
func allTaken(args []api.Arg, parts []string, vars []bool) bool {
	for i, part := range parts {
		takes := placeOf(strings.TrimPrefix(part, "a"), vars).takes
		for _, t := range args[i].L {
			if !takes(t) {
				return false
			}
		}
	}
	return true
}
