package sched

import "jigsaw/api"

// room is how heavy what lies in a bin is to be.
type room interface {
	// bounds is the least and the most.
	bounds(w world) (least, most int64)
}

// capacity is a room for at most so much.
type capacity int64

func (c capacity) bounds(world) (least, most int64) {
	return 0, int64(c)
}

// load is a room for just as much as a term says.
type load api.Term

func (l load) bounds(w world) (least, most int64) {
	return w.bounds(api.Term(l))
}

func capacities(l []int64) []room {
	var out []room
	for _, n := range l {
		out = append(out, capacity(n))
	}
	return out
}

func loads(l []api.Term) []room {
	var out []room
	for _, t := range l {
		out = append(out, load(t))
	}
	return out
}

// bins says that each item lies in one of the bins, which are numbered from 1 on, and that all that lies in a bin is together as heavy as there is room.
type bins struct {
	items []weighed
	rooms []room
}

// weights is of each bin how heavy what lies in it is, at least and at most; false, if an item can lie in none.
func (c bins) weights(w world) (sure, may []int64, ok bool) {
	n := int64(len(c.rooms))
	sure, may, ok = make([]int64, n), make([]int64, n), true
	for _, x := range c.items {
		some := false
		for bin := range w.within(x.term, 1, n) {
			some = true
			may[bin-1] += x.weight
		}
		ok = ok && some
		if lo, hi := w.bounds(x.term); some && lo == hi {
			sure[lo-1] += x.weight
		}
	}
	return sure, may, ok
}

// can: has each bin room for what is known to lie in it, and may there be enough in it?
func (c bins) can(w world) bool {
	sure, may, ok := c.weights(w)
	for i, r := range c.rooms {
		least, most := r.bounds(w)
		ok = ok && sure[i] <= most && may[i] >= least
	}
	return ok
}

// narrow takes away what is no bin, and what would be too much or too little in one.
func (c bins) narrow(d domains) {
	for _, x := range c.items {
		d.Cut(x.term, 1, int64(len(c.rooms)))
	}
	sure, may, _ := c.weights(d)
	for i := range c.rooms {
		c.cut(d, i, sure[i], may[i])
	}
	c.balance(d)
	for _, x := range c.items {
		if _, ok := d.Fixed(x.term); !ok {
			c.place(d, x, sure, may)
		}
	}
}

// cut takes from how heavy a bin is to be, where that is a term, what is not from least to most.
func (c bins) cut(d domains, i int, least, most int64) {
	switch r := c.rooms[i].(type) {
	case load:
		d.Cut(api.Term(r), least, most)
	case capacity: // it is what it is
	}
}

// balance takes from each load what is too much or too little for all of them together, for all items lie somewhere.
func (c bins) balance(d domains) {
	total, least, most := int64(0), int64(0), int64(0)
	for _, x := range c.items {
		total += x.weight
	}
	for _, r := range c.rooms {
		lo, hi := r.bounds(d)
		least, most = least+lo, most+hi
	}
	for i, r := range c.rooms {
		lo, hi := r.bounds(d)
		c.cut(d, i, total-(most-hi), total-(least-lo))
		nextLo, nextHi := r.bounds(d)
		least, most = least+nextLo-lo, most+nextHi-hi
	}
	if total > most {
		d.Fail()
	}
}

// place takes from an item the bins in which it would be too heavy; if one bin is too light without it, it lies there.
func (c bins) place(d domains, x weighed, sure, may []int64) {
	var full []int64
	for bin := range d.within(x.term, 1, int64(len(c.rooms))) {
		least, most := c.rooms[bin-1].bounds(d)
		if sure[bin-1]+x.weight > most {
			full = append(full, bin)
		}
		if may[bin-1]-x.weight < least {
			d.Cut(x.term, bin, bin)
		}
	}
	d.Leave(x.term, full)
}
