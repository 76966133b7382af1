package store

import "jigsaw/api"

// kept is a domain that a variable had.
type kept struct {
	v     int
	d     api.Dom
	since int // the depth at which one was saved of that variable ahead of it
}

// trail is what is needed to bring domains back: of each depth, of each variable that changed there, the domain that it had.
type trail struct {
	saved []kept
	marks []int // of each depth, how many were saved when it began
	since []int // of each variable, the depth at which its domain was saved last; 0: none is
}

func newTrail(vars int) trail {
	return trail{since: make([]int, vars)}
}

func (t *trail) depth() int {
	return len(t.marks)
}

// mark begins another depth.
func (t *trail) mark() {
	t.marks = append(t.marks, len(t.saved))
}

// save keeps the domain that a variable had, if it is the first one at this depth. At the depth 0 nothing is kept, for nothing brings it back.
func (t *trail) save(v int, d api.Dom) {
	if t.since[v] == t.depth() {
		return
	}
	t.saved = append(t.saved, kept{v: v, d: d, since: t.since[v]})
	t.since[v] = t.depth()
}

// back ends the depth, and puts each domain back that was saved there.
func (t *trail) back(put func(v int, d api.Dom)) {
	last := len(t.marks) - 1
	from := t.marks[last]
	for _, k := range t.saved[from:] {
		put(k.v, k.d)
		t.since[k.v] = k.since
	}
	clear(t.saved[from:]) // so that no domain is kept that no one can ask for
	t.saved = t.saved[:from]
	t.marks = t.marks[:last]
}
