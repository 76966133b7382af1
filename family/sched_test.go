package family_test

import (
	"math/big"
	"slices"

	"jigsaw/api"
)

// schedModel is the document's chapter 13.
func schedModel(c api.Con, v []api.Val) answer {
	var l [][]int64
	for _, a := range c.Args {
		l = append(l, numbers(a, v))
	}
	switch c.Name {
	case "fzn_circuit":
		return truthOf(goesRound(l[0], func(int) bool { return true }))
	case "fzn_subcircuit":
		return truthOf(len(valuesOf(l[0])) == len(l[0]) && goesRound(l[0], func(i int) bool { return l[0][i] != int64(i+1) }))
	case "fzn_cumulative":
		return truthOf(noneNegative(l[1], l[2], l[3]) && neverTooMuch(l[0], l[1], l[2], l[3][0]))
	case "fzn_disjunctive":
		return truthOf(noneNegative(l[1]) && neverTooMuch(l[0], l[1], slices.Repeat(list(1), len(l[0])), 1))
	case "fzn_diffn":
		return truthOf(noneNegative(l[2], l[3]) && noneOverlaps(l[0], l[1], l[2], l[3]))
	case "fzn_bin_packing":
		return packModel(l[1], l[2], valuesOf(l[1]), func(_, weight int64) bool { return weight <= l[0][0] })
	case "fzn_bin_packing_capa":
		return packModel(l[1], l[2], places(l[0]), func(bin, weight int64) bool { return weight <= l[0][bin-1] })
	case "fzn_bin_packing_load":
		return packModel(l[1], l[2], places(l[0]), func(bin, weight int64) bool { return weight == l[0][bin-1] })
	case "fzn_knapsack":
		return truthOf(noneNegative(l[2]) && comesTo(l[0], l[2], l[3][0]) && comesTo(l[1], l[2], l[4][0]))
	}
	panic(c.Name)
}

// places is the numbers from 1 on, as many as a list has.
func places(l []int64) []int64 {
	var out []int64
	for i := range l {
		out = append(out, int64(i+1))
	}
	return out
}

func noneNegative(lists ...[]int64) bool {
	return !slices.ContainsFunc(slices.Concat(lists...), func(n int64) bool { return n < 0 })
}

// goesRound: are all numbers from 1 to how many there are, and does one come, from the first place that is in, to all that are in, and back, in as many steps?
func goesRound(x []int64, in func(i int) bool) bool {
	var members []int
	for i, n := range x {
		if n < 1 || n > int64(len(x)) {
			return false
		}
		if in(i) {
			members = append(members, i)
		}
	}
	if len(members) == 0 {
		return true
	}
	seen, at := map[int]bool{}, members[0]
	for range members {
		seen[at] = true
		at = int(x[at] - 1)
	}
	return at == members[0] && len(seen) == len(members)
}

// neverTooMuch looks at all times at which something begins: only then it may become too much.
func neverTooMuch(s, d, r []int64, most int64) bool {
	for _, now := range s {
		n := int64(0)
		for i := range s {
			if s[i] <= now && now < s[i]+d[i] {
				n += r[i]
			}
		}
		if n > most {
			return false
		}
	}
	return true
}

func noneOverlaps(x, y, w, h []int64) bool {
	for i := range x {
		for j := range i {
			if min(w[i], w[j], h[i], h[j]) > 0 && x[i]+w[i] > x[j] && x[j]+w[j] > x[i] && y[i]+h[i] > y[j] && y[j]+h[j] > y[i] {
				return false
			}
		}
	}
	return true
}

// packModel: does each item lie in one of the bins, and is each bin as heavy as it should?
func packModel(in, weights, bins []int64, so func(bin, weight int64) bool) answer {
	for _, b := range in {
		if !slices.Contains(bins, b) {
			return no
		}
	}
	for _, bin := range bins {
		n := int64(0)
		for i, b := range in {
			if b == bin {
				n += weights[i]
			}
		}
		if !so(bin, n) {
			return no
		}
	}
	return yes
}

// comesTo: are the products of both together the total?
func comesTo(a, x []int64, total int64) bool {
	sum := new(big.Int)
	for i := range a {
		sum.Add(sum, new(big.Int).Mul(big.NewInt(a[i]), big.NewInt(x[i])))
	}
	return sum.Cmp(big.NewInt(total)) == 0
}
