package sched

import "jigsaw/api"

// open is the place behind or ahead of one of which it is not known.
const open = -1

// tour is what is known of places, from 0 on, each of which leads to one.
type tour struct {
	next  []int // of each place where it leads to
	ahead []int // of each place which one leads to it
}

// tourOf is the tour of terms, the first place being 1 to them; false, if one of them leads to no place, or two lead to the same.
func tourOf(w world, terms []api.Term) (tour, bool) {
	n := len(terms)
	t := tour{next: make([]int, n), ahead: make([]int, n)}
	for i := range n {
		t.next[i], t.ahead[i] = open, open
	}
	for i, x := range terms {
		lo, hi := w.bounds(x)
		switch {
		case hi < 1 || lo > int64(n):
			return tour{}, false
		case lo < hi:
			continue
		case t.ahead[lo-1] != open:
			return tour{}, false
		}
		t.next[i], t.ahead[lo-1] = int(lo-1), i
	}
	return t, true
}

// chain is places that lead on from the first, to which none is known to lead, to the last, of which it is not known where it leads. (Both may be the same.)
type chain struct {
	first, last, size int
}

// chains is all chains. Places that are in none lead round.
func (t tour) chains() []chain {
	var out []chain
	for first, ahead := range t.ahead {
		if ahead != open {
			continue
		}
		c := chain{first: first, last: first, size: 1}
		for t.next[c.last] != open {
			c.last = t.next[c.last]
			c.size++
		}
		out = append(out, c)
	}
	return out
}

// round is how many places there are from one that leads round until it is come back to.
func (t tour) round(first int) int {
	n := 1
	for at := t.next[first]; at != first; at = t.next[at] {
		n++
	}
	return n
}

// rounds is how many places lead round, but for those that lead to themselves, and one of them.
func (t tour) rounds() (n, one int) {
	in := make([]bool, len(t.next))
	for _, c := range t.chains() {
		for at := c.first; at != open; at = t.next[at] {
			in[at] = true
		}
	}
	for i := range in {
		if !in[i] && t.next[i] != i {
			n, one = n+1, i
		}
	}
	return n, one
}
