package seq

import (
	"slices"

	"jigsaw/api"
	"jigsaw/dom"
	"jigsaw/family"
)

// automaton says that the terms are letters, from 1 on, which lead from the first state to one of the last ones.
type automaton struct {
	terms   []api.Term
	states  int64
	letters int64
	next    []int64 // state by state, letter by letter; 0 leads nowhere
	first   int64
	last    []int64
}

func automatonOf(c api.Con) automaton {
	number := func(i int) int64 { return c.Args[i].L[0].C.N }
	return automaton{c.Args[0].L, number(1), number(2), constants(c.Args[3].L), number(4), c.Args[5].L[0].C.S}
}

// step is where a letter leads from a state.
func (c automaton) step(state, letter int64) int64 {
	if letter < 1 || letter > c.letters {
		return 0
	}
	return c.next[(state-1)*c.letters+letter-1]
}

// Holds: does it hold of values?
func (c automaton) Holds(v []api.Val) bool {
	state := c.first
	for _, letter := range family.Numbers(c.terms, v) {
		if state = c.step(state, letter); state == 0 {
			return false
		}
	}
	return slices.Contains(c.last, state)
}

// layer is states between two terms, each of which is in it or not.
type layer []bool

func (c automaton) layer(states ...int64) layer {
	out := make(layer, c.states+1)
	for _, s := range states {
		if s >= 1 && s <= c.states {
			out[s] = true
		}
	}
	return out
}

// each goes through the states of a layer.
func (l layer) each(yield func(int64) bool) {
	for s, in := range l {
		if in && !yield(int64(s)) {
			return
		}
	}
}

// Narrow leaves each term the letters that lead from a state that can be reached to one from which a last state can be.
func (c automaton) Narrow(d *family.Doms) {
	letters := make([][]int64, len(c.terms))
	reached := []layer{c.layer(c.first)}
	for i, t := range c.terms {
		letters[i] = slices.Collect(dom.Each(dom.Cut(d.Get(t).R, 1, c.letters)))
		reached = append(reached, c.forward(reached[i], letters[i]))
	}
	goal := c.layer(c.last...)
	for i, t := range slices.Backward(c.terms) {
		var good []int64
		goal, good = c.back(reached[i], letters[i], goal)
		d.KeepOnly(t, good)
	}
}

// forward is the states to which letters lead from those of a layer.
func (c automaton) forward(from layer, letters []int64) layer {
	to := c.layer()
	for s := range from.each {
		for _, letter := range letters {
			to[c.step(s, letter)] = true
		}
	}
	to[0] = false
	return to
}

// back is the states of a layer from which a letter leads to the goal, and these letters.
func (c automaton) back(from layer, letters []int64, goal layer) (layer, []int64) {
	start := c.layer()
	var good []int64
	for _, letter := range letters {
		leads := false
		for s := range from.each {
			if goal[c.step(s, letter)] {
				start[s], leads = true, true
			}
		}
		if leads {
			good = append(good, letter)
		}
	}
	return start, good
}
