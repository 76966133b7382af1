package family_test

import (
	"slices"

	"jigsaw/api"
)

// occurs is how often a number stands in a list.
func occurs(l []int64, n int64) int64 {
	k := int64(0)
	for _, x := range l {
		if x == n {
			k++
		}
	}
	return k
}

// valuesOf is the numbers of a list, each once, in the order in which they come.
func valuesOf(l []int64) []int64 {
	var out []int64
	for _, x := range l {
		if occurs(out, x) == 0 {
			out = append(out, x)
		}
	}
	return out
}

// countModel is the document's chapter 11.
func countModel(c api.Con, v []api.Val) answer {
	var args [][]int64
	for _, a := range c.Args {
		args = append(args, numbers(a, v))
	}
	switch c.Name {
	case "fzn_all_different_int":
		return truthOf(len(valuesOf(args[0])) == len(args[0]))
	case "fzn_all_equal_int":
		return truthOf(len(valuesOf(args[0])) < 2)
	case "fzn_global_cardinality":
		return truthOf(asOften(args[0], args[1], args[2]))
	case "fzn_global_cardinality_closed":
		return truthOf(asOften(args[0], args[1], args[2]) && !slices.ContainsFunc(args[0], func(n int64) bool { return occurs(args[1], n) == 0 }))
	case "fzn_count_eq":
		return truthOf(occurs(args[0], args[1][0]) == args[2][0])
	case "fzn_among":
		n := int64(0)
		for _, e := range c.Args[2].L[0].C.S {
			n += occurs(args[1], e)
		}
		return truthOf(n == args[0][0])
	case "fzn_nvalue":
		return truthOf(int64(len(valuesOf(args[1]))) == args[0][0])
	case "fzn_at_most_int":
		return truthOf(occurs(args[1], args[2][0]) <= args[0][0])
	case "fzn_at_least_int":
		return truthOf(occurs(args[1], args[2][0]) >= args[0][0])
	case "fzn_value_precede_int":
		return truthOf(precedes(args[0][0], args[1][0], args[2]))
	}
	panic(c.Name)
}

// asOften: does each of c stand among x as often as its n says?
func asOften(x, c, n []int64) bool {
	for i, value := range c {
		if occurs(x, value) != n[i] {
			return false
		}
	}
	return true
}

// precedes: has each t an s ahead?
func precedes(s, t int64, l []int64) bool {
	for i, x := range l {
		if x == t && s != t && occurs(l[:i], s) == 0 {
			return false
		}
	}
	return true
}
