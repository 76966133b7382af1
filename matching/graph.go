package matching

import (
	"jigsaw/api"
	"jigsaw/dom"
	"jigsaw/family"
)

// nobody has a value that is free; nothing is the value of a term that has none yet.
const (
	nobody  = -1
	nothing = -1
)

// graph is which values terms may have, both by numbers, and which ones they have been given: each value to one term at most.
type graph struct {
	values [][]int // of each term those that it may have
	is     []int64 // of each value's number the value
	has    []int   // of each term the value that it has been given
	owner  []int   // of each value the term that it has been given to

	seen   []int // of each value the last search that came to it
	from   []int // of each value the term from which it was come to
	search int
}

func graphOf(d *family.Doms, terms []api.Term) *graph {
	g := &graph{values: make([][]int, len(terms)), search: 1}
	numbers := map[int64]int{}
	for i, t := range terms {
		g.has = append(g.has, nothing)
		for v := range dom.Each(d.Get(t).R) {
			n, ok := numbers[v]
			if !ok {
				n = len(g.is)
				numbers[v] = n
				g.is = append(g.is, v)
				g.owner = append(g.owner, nobody)
			}
			g.values[i] = append(g.values[i], n)
		}
	}
	g.seen, g.from = make([]int, len(g.is)), make([]int, len(g.is))
	return g
}

// match gives values to as many terms as can have one, and tells how many these are.
func (g *graph) match() int {
	n := 0
	for x := range g.values {
		if g.give(x) {
			n++
		}
	}
	return n
}

// give gives a term a value, if need be by giving others another one; false, if it can not have one as long as all others are to have one. What a search that failed has come to leads to no free value, now or later: only one that found something makes the next one look at all of it again.
func (g *graph) give(x int) bool {
	end := g.path(x)
	if end == nothing {
		return false
	}
	for v := end; v != nothing; {
		y := g.from[v]
		v, g.has[y], g.owner[v] = g.has[y], v, y
	}
	g.search++
	return true
}

// path looks for the way from a term that has no value to a free one, by values that others have and would have to leave; it is where that way ends.
func (g *graph) path(x int) int {
	end := nothing
	queue := []int{x}
path:
	for at := 0; at < len(queue); at++ {
		for _, v := range g.values[queue[at]] {
			if g.seen[v] == g.search {
				continue
			}
			g.seen[v], g.from[v] = g.search, queue[at]
			if g.owner[v] == nobody {
				end = v
				break path
			}
			queue = append(queue, g.owner[v])
		}
	}
	return end
}
