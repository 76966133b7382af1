package cons

import (
	"slices"
	"strings"

	"jigsaw/api"
)

// fits: do arguments that are as their form says fit each other, by the rules that the form does not tell?
func fits(c api.Con) bool {
	a := c.Args
	switch c.Name {
	case "fzn_sort", "fzn_inverse", "fzn_disjunctive", "fzn_diffn":
		return asMany(a...)
	case "fzn_global_cardinality", "fzn_global_cardinality_closed":
		return asMany(a[1:]...) && noneTwice(a[1])
	case "fzn_maximum_int", "fzn_minimum_int":
		return len(a[1].L) > 0
	case "fzn_table_int":
		return len(a[0].L) > 0 && len(a[1].L)%len(a[0].L) == 0
	case "fzn_regular":
		return automaton(a)
	case "fzn_cumulative":
		return asMany(a[:3]...)
	case "fzn_bin_packing", "fzn_bin_packing_capa", "fzn_bin_packing_load":
		return asMany(a[1:]...) && noneBelow(a[2])
	case "fzn_knapsack":
		return asMany(a[:3]...) && noneBelow(a[0]) && noneBelow(a[1])
	}
	if strings.HasPrefix(c.Name, "int_lin_") || strings.HasPrefix(c.Name, "bool_lin_") {
		return asMany(a[:2]...)
	}
	return true
}

// asMany: have all of them as many terms?
func asMany(args ...api.Arg) bool {
	for _, a := range args {
		if len(a.L) != len(args[0].L) {
			return false
		}
	}
	return true
}

// numbers is the numbers of constants.
func numbers(a api.Arg) []int64 {
	out := make([]int64, 0, len(a.L))
	for _, t := range a.L {
		out = append(out, t.C.N)
	}
	return out
}

func noneTwice(a api.Arg) bool {
	l := numbers(a)
	slices.Sort(l)
	return len(slices.Compact(l)) == len(a.L)
}

// noneBelow: is no number below 0?
func noneBelow(a api.Arg) bool {
	return !slices.ContainsFunc(numbers(a), func(n int64) bool { return n < 0 })
}

// automaton: of fzn_regular, are the table and the first state those of so many states and letters?
func automaton(a []api.Arg) bool {
	states, letters, first := a[1].L[0].C.N, a[2].L[0].C.N, a[4].L[0].C.N
	if states < 1 || states > api.MaxArray || letters < 1 || letters > api.MaxArray || first < 1 || first > states {
		return false
	}
	goesOut := func(n int64) bool { return n < 0 || n > states }
	return int64(len(a[3].L)) == states*letters && !slices.ContainsFunc(numbers(a[3]), goesOut)
}
