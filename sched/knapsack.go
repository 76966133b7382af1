package sched

import (
	"jigsaw/api"
	"jigsaw/ints"
)

// knapsack says that no term is below 0, and that both sums, which are of the same terms, are their totals.
type knapsack [2]sum

// sum says that the weights, none below 0, times their terms are together a total. By the limits of arrays, coefficients and values that is at most 1000 times 10^9 times 10^6, so that neither it nor a difference of two such sums is beyond 64 bits.
type sum struct {
	terms []weighed
	total api.Term
}

// bounds is the least and the most that the sum may come to; false, if a term can not but be below 0.
func (s sum) bounds(w world) (least, most int64, ok bool) {
	var weights, los, his []int64
	ok = true
	for _, x := range s.terms {
		lo, hi, can := atLeast0(w, x.term)
		weights, los, his = append(weights, x.weight), append(los, lo), append(his, hi)
		ok = ok && can
	}
	least, one := ints.Dot(weights, los)
	most, two := ints.Dot(weights, his)
	return least, most, ok && one == api.OK && two == api.OK
}

// can: may the sum be the total?
func (s sum) can(w world) bool {
	least, most, ok := s.bounds(w)
	lo, hi := w.bounds(s.total)
	return ok && least <= hi && lo <= most
}

// narrow takes from the total what the sum can not come to, and from each term what is too much or too little, whatever the others are.
func (s sum) narrow(d domains) {
	least, most, _ := s.bounds(d)
	d.Cut(s.total, least, most)
	from, to := d.bounds(s.total)
	for _, x := range s.terms {
		if x.weight == 0 {
			continue
		}
		lo, hi := d.bounds(x.term)
		fewest, _ := ints.Ceil(from-(most-x.weight*hi), x.weight)
		greatest, _ := ints.Floor(to-(least-x.weight*lo), x.weight)
		d.Cut(x.term, fewest, greatest)
		nextLo, nextHi := d.bounds(x.term)
		least, most = least+x.weight*(nextLo-lo), most+x.weight*(nextHi-hi)
	}
	d.Cut(s.total, least, most)
}

// can: may both sums be their totals?
func (k knapsack) can(w world) bool {
	return k[0].can(w) && k[1].can(w)
}

// narrow takes away what is below 0, and what the sums can not be.
func (k knapsack) narrow(d domains) {
	for _, x := range k[0].terms {
		d.Cut(x.term, 0, api.Big)
	}
	for _, s := range k {
		s.narrow(d)
	}
}
