package linear

import (
	"strings"

	"jigsaw/api"
	"jigsaw/cons"
	"jigsaw/family"
	"jigsaw/ints"
)

// relation is how a sum is held against its total.
type relation int

const (
	equal relation = iota
	unequal
	atMost
)

// sum is what a constraint asks but for a truth that hangs on it: how the sum of coefficients times terms is held against a total. By the limits of arrays, coefficients and values it is at most 1000 times 10^9 times 10^6 and some more, so that no sum, and no difference of two of them, is beyond 64 bits.
type sum struct {
	coefs []int64
	terms []api.Term
	how   relation
	total int64
}

// sumOf reads a constraint on which no truth hangs. What stands on the right side is taken away on the left one, for it may be a variable.
func sumOf(c api.Con) sum {
	s := sum{how: relationOf(c.Name)}
	right := c.Args[1].L
	if strings.Contains(c.Name, "_lin_") {
		for i, coef := range c.Args[0].L {
			s.add(coef.C.N, right[i])
		}
		right = c.Args[2].L
	} else {
		s.add(1, c.Args[0].L[0])
	}
	s.add(-1, right[0])
	if c.Name == "int_lt" {
		s.total = -1
	}
	return s
}

func relationOf(name string) relation {
	switch {
	case strings.HasSuffix(name, "_eq"):
		return equal
	case strings.HasSuffix(name, "_ne"):
		return unequal
	}
	return atMost
}

func (s *sum) add(coef int64, t api.Term) {
	s.coefs = append(s.coefs, coef)
	s.terms = append(s.terms, t)
}

// Holds: does it hold of values?
func (s sum) Holds(v []api.Val) (bool, api.Errno) {
	numbers := make([]int64, len(s.terms))
	for i, t := range s.terms {
		x, e := cons.Of(t, v)
		if e != api.OK {
			return false, e
		}
		numbers[i] = x.N
	}
	n, e := ints.Dot(s.coefs, numbers)
	if e != api.OK {
		return false, e
	}
	switch s.how {
	case equal:
		return n == s.total, api.OK
	case unequal:
		return n != s.total, api.OK
	}
	return n <= s.total, api.OK
}

// negated holds just where s does not. What is not at most a total is, turned about, at most one less than the total turned about.
func (s sum) negated() sum {
	switch s.how {
	case equal:
		s.how = unequal
	case unequal:
		s.how = equal
	case atMost:
		turned := sum{how: atMost, terms: s.terms, total: -s.total - 1}
		for _, coef := range s.coefs {
			turned.coefs = append(turned.coefs, -coef)
		}
		return turned
	}
	return s
}

// Enforce takes away values with which it can not hold, or can not but hold.
func (s sum) Enforce(d *family.Doms, so bool) {
	if !so {
		s = s.negated()
	}
	b := s.within(d)
	switch {
	case !b.tighten():
		d.Fail()
	case s.how == unequal:
		b.avoid(d)
	default:
		b.hand(d)
	}
}
