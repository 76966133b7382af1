package sched

import (
	"cmp"
	"slices"

	"jigsaw/api"
)

// side is one dimension of boxes: of each of them where it begins, and its size from there on.
type side struct {
	at, size []api.Term
}

// boxes, in one dimension (as tasks in time) or in more, says that no size is below 0, and no two overlap none of whose sizes is 0.
type boxes []side

// span is what is known of a box in one dimension: that it begins from lo to hi, and its size at least.
type span struct {
	lo, hi, size int64
}

// meets: is it so that neither of two can end ahead of the other one, or where that begins?
func (s span) meets(o span) bool {
	return s.lo+s.size > o.hi && o.lo+o.size > s.hi
}

// box is what is known of a box: its number, and a span for each dimension.
type box struct {
	i     int
	spans []span
}

// solid is what is known of the boxes none of whose sizes can be 0; false, if some size can not but be below 0.
func (b boxes) solid(w world) ([]box, bool) {
	var out []box
	for i := range b[0].at {
		x := box{i: i, spans: make([]span, len(b))}
		is := true
		for k, s := range b {
			size, _, ok := atLeast0(w, s.size[i])
			if !ok {
				return nil, false
			}
			lo, hi := w.bounds(s.at[i])
			x.spans[k] = span{lo: lo, hi: hi, size: size}
			is = is && size > 0
		}
		if is {
			out = append(out, x)
		}
	}
	return out, true
}

// can: are there no two that can not but overlap? By the order of where they begin at last in the first dimension, those behind one meet it there only up to where it ends.
func (b boxes) can(w world) bool {
	l, ok := b.solid(w)
	if !ok {
		return false
	}
	slices.SortFunc(l, func(x, y box) int { return cmp.Compare(x.spans[0].hi, y.spans[0].hi) })
	for i, x := range l {
		end := x.spans[0].lo + x.spans[0].size
		for _, y := range l[i+1:] {
			if y.spans[0].hi >= end {
				break
			}
			if x.meets(y, nowhere) {
				return false
			}
		}
	}
	return true
}

// nowhere is no dimension.
const nowhere = -1

// meets: do two meet in all dimensions but that one?
func (x box) meets(y box, but int) bool {
	for k, s := range x.spans {
		if k != but && !s.meets(y.spans[k]) {
			return false
		}
	}
	return true
}

// narrow takes away what is below 0 of a size, and where a box would overlap another one, wherever that is.
func (b boxes) narrow(d domains) {
	for _, s := range b {
		keepFrom0(d, s.size...)
	}
	l, _ := b.solid(d)
	if len(b) == 1 && crowded(inTime(l), 1) {
		d.Fail()
	}
	for _, x := range l {
		for k := range x.spans {
			at := b[k].at[x.i]
			if out := x.barred(l, k); len(out) > 0 {
				d.LeaveRanges(at, out)
			}
			x.spans[k].lo, x.spans[k].hi = d.bounds(at)
		}
	}
}

// inTime is boxes as tasks in their first dimension, one of which can be there at a time.
func inTime(l []box) []task {
	out := make([]task, len(l))
	for i, x := range l {
		out[i] = task{lo: x.spans[0].lo, hi: x.spans[0].hi, length: x.spans[0].size, need: 1}
	}
	return out
}

// barred is where a box can not begin in one dimension, for another one that it meets in all others is there.
func (x box) barred(l []box, k int) []api.Range {
	var out []api.Range
	s := x.spans[k]
	for _, y := range l {
		o := y.spans[k]
		r := api.Range{Lo: o.hi - s.size + 1, Hi: o.lo + o.size - 1}
		if y.i != x.i && r.Lo <= r.Hi && x.meets(y, k) {
			out = append(out, r)
		}
	}
	return out
}
