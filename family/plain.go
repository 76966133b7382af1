package family

import (
	"jigsaw/api"
	"jigsaw/cons"
)

// Plain is a constraint of which it can always be said if it holds, and on which no truth hangs.
type Plain interface {
	// Holds: does it hold of values?
	Holds(v []api.Val) bool
	// Narrow takes away values with which it can not hold.
	Narrow(d *Doms)
}

// PlainRules is the rules of a family whose constraints are all plain; read is what one of them says.
func PlainRules(name string, read func(c api.Con) Plain) Rules {
	return Rules{
		Name: name,
		Test: func(c api.Con) Test {
			p := read(c)
			return func(v []api.Val) (bool, api.Errno) { return p.Holds(v), api.OK }
		},
		Narrow: func(c api.Con, d *Doms) api.Errno {
			read(c).Narrow(d)
			return api.OK
		},
	}
}

// Number is the value of a whole number.
func Number(t api.Term, v []api.Val) int64 {
	x, _ := cons.Of(t, v)
	return x.N
}

// Numbers is the values of whole numbers.
func Numbers(l []api.Term, v []api.Val) []int64 {
	out := make([]int64, len(l))
	for i, t := range l {
		out[i] = Number(t, v)
	}
	return out
}

// Twice: does a variable stand more than once among terms?
func Twice(l []api.Term) bool {
	vars := 0
	for _, t := range l {
		if t.Var >= 0 {
			vars++
		}
	}
	return len(cons.Vars(api.Con{Args: []api.Arg{{L: l}}})) < vars
}
