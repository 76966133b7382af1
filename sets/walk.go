package sets

import "jigsaw/api"

// countLimit is what Count tells of more sets, too.
const countLimit = 1 << 62

// Count is how many sets it has: of each size as many as there are choices among the elements that may be missing.
func Count(d api.Dom) int64 {
	d = taken(d)
	row := choices(len(d.Up) - len(d.Lo))
	n := int64(0)
	for size := d.Least; size <= d.Most; size++ {
		n = min(n+row[size-len(d.Lo)], countLimit) // each number of choices is below 2^62, so no sum wraps
	}
	return n
}

// choices is how many ways there are to choose 0, 1, 2 and so on of n elements.
func choices(n int) [api.MaxElems + 1]int64 {
	row := [api.MaxElems + 1]int64{1}
	for range n {
		for k := api.MaxElems; k > 0; k-- {
			row[k] += row[k-1]
		}
	}
	return row
}

// walk goes through the sets of a tight domain that is not the empty one.
type walk struct {
	d     api.Dom
	must  truths // which elements of Up are in Lo
	yield func([]int64) bool
}

// begun is a set as far as the elements of Up ahead of at go: which are there, how many, and how many of Lo are still to come.
type begun struct {
	in     truths
	at     int
	have   int
	needed int
}

// from tells all sets that go on from b, in their order; false, if that was ended. At least one set goes on from each b that is asked for, so no way is gone in vain.
func (w *walk) from(b begun) bool {
	if b.needed == 0 && b.have >= w.d.Least && !w.yield(picked(w.d.Up, b.in, true)) {
		return false
	}
	for i := b.at; i < len(w.d.Up) && b.have+len(w.d.Up)-i >= w.d.Least; i++ {
		next := b.with(i, w.must[i])
		if next.have+next.needed <= w.d.Most && !w.from(next) {
			return false
		}
		if w.must[i] {
			break
		}
	}
	return true
}

// with is b with the element number i next; those between are not there, and none of them is of Lo.
func (b begun) with(i int, must bool) begun {
	b.in[i] = true
	b.at = i + 1
	b.have++
	if must {
		b.needed--
	}
	return b
}
