package sched

import "jigsaw/api"

// weighed is a term, and how much it weighs: an item that lies in the bin of that number, or what there is so many times.
type weighed struct {
	term   api.Term
	weight int64
}

// weigh is terms with their weights, those of one variable taken together.
func weigh(terms []api.Term, weights []int64) []weighed {
	var out []weighed
	first := map[int]int{}
	for i, t := range terms {
		at, found := first[t.Var]
		if found && t.Var >= 0 {
			out[at].weight += weights[i]
			continue
		}
		first[t.Var] = len(out)
		out = append(out, weighed{term: t, weight: weights[i]})
	}
	return out
}
