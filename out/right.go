package out

import (
	"slices"

	"jigsaw/api"
	"jigsaw/lex"
)

// constant is the Var of a term that is no variable.
const constant = -1

// Right: can outputs be?
func Right(l []api.Out) api.Errno {
	switch {
	case len(l) > api.MaxVars:
		return api.ErrFull
	case slices.ContainsFunc(l, wrong):
		return api.ErrOut
	case nameTwice(l):
		return api.ErrTwice
	}
	return api.OK
}

// wrong: can an output not be, whatever the others are?
func wrong(o api.Out) bool {
	return !lex.Word(o.Name) || !isKind(o.Kind) || !rightShape(o) || slices.ContainsFunc(o.L, wrongTerm(o.Kind))
}

func isKind(kind int) bool {
	return kind == api.YBool || kind == api.YInt || kind == api.YSet
}

// rightShape: has an output as many terms as it says?
func rightShape(o api.Out) bool {
	if o.One {
		return len(o.L) == 1 && len(o.Dims) == 0
	}
	return len(o.Dims) >= 1 && len(o.Dims) <= api.MaxNest && !slices.ContainsFunc(o.Dims, wrongEnds) && product(o.Dims, int64(len(o.L))+1) == int64(len(o.L))
}

func wrongEnds(r api.Range) bool {
	return !bounded(r.Lo) || !bounded(r.Hi)
}

func bounded(n int64) bool {
	return -api.Big <= n && n <= api.Big
}

// product is the sizes of dimensions multiplied; most, if it would be more, so that nothing goes beyond whole numbers. One that is 0 makes it 0, whatever the others are.
func product(dims []api.Range, most int64) int64 {
	out := int64(1)
	for _, r := range dims {
		if r.Hi < r.Lo {
			return 0
		}
		out = min(most, out*(r.Hi-r.Lo+1))
	}
	return out
}

// wrongTerm asks of a term of an output of a kind: is it neither a variable nor a constant that can be?
func wrongTerm(kind int) func(api.Term) bool {
	return func(t api.Term) bool {
		return t.Var < constant || t.Var == constant && !isValue(t.C, kind)
	}
}

func nameTwice(l []api.Out) bool {
	seen := map[string]struct{}{}
	for _, o := range l {
		seen[o.Name] = struct{}{}
	}
	return len(seen) < len(l)
}

// isValue: is it a value of a kind? Of a kind that there is not there are none.
func isValue(v api.Val, kind int) bool {
	switch kind {
	case api.YBool:
		return isNumber(v, 0, 1)
	case api.YInt:
		return isNumber(v, -api.Big, api.Big)
	case api.YSet:
		return v.Set && v.N == 0 && isSet(v.S)
	}
	return false
}

func isNumber(v api.Val, lo, hi int64) bool {
	return !v.Set && len(v.S) == 0 && lo <= v.N && v.N <= hi
}

// isSet is as package sets has it, which this layer does not call.
func isSet(l []int64) bool {
	for i, n := range l {
		if !bounded(n) || i > 0 && n <= l[i-1] {
			return false
		}
	}
	return len(l) <= api.MaxElems
}
