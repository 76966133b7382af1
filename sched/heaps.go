package sched

// heaps says that all that lies in one bin, whatever its number is, is together not too heavy.
type heaps struct {
	items []weighed
	most  int64
}

// heap is what is known to lie in a bin.
type heap struct {
	bin    int64
	weight int64
}

// known is all heaps of which something is known.
func (c heaps) known(w world) []heap {
	var out []heap
	place := map[int64]int{}
	for _, x := range c.items {
		lo, hi := w.bounds(x.term)
		if lo < hi {
			continue
		}
		at, found := place[lo]
		if !found {
			at = len(out)
			place[lo] = at
			out = append(out, heap{bin: lo})
		}
		out[at].weight += x.weight
	}
	return out
}

// can: is no item too heavy by itself, and no heap of which something is known?
func (c heaps) can(w world) bool {
	for _, x := range c.items {
		if x.weight > c.most {
			return false
		}
	}
	for _, h := range c.known(w) {
		if h.weight > c.most {
			return false
		}
	}
	return true
}

// narrow takes from items of which it is not known where they lie the bins in which they would be too heavy.
func (c heaps) narrow(d domains) {
	known := c.known(d)
	for _, x := range c.items {
		if _, ok := d.Fixed(x.term); ok {
			continue
		}
		var full []int64
		for _, h := range known {
			if h.weight+x.weight > c.most {
				full = append(full, h.bin)
			}
		}
		d.Leave(x.term, full)
	}
}
