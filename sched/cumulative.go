package sched

import (
	"cmp"
	"slices"

	"jigsaw/api"
)

// cumulative says that at no time tasks need more than the limit; no length, no need, and not the limit is below 0.
type cumulative struct {
	start, length, need []api.Term
	limit               api.Term
}

// task is what is known of one: that it begins from lo to hi, and how long it is, and how much it needs, at least.
type task struct {
	lo, hi, length, need int64
}

// sure is the time at which a task is there, whenever it begins: from one time up to below the other; none, if that is not above it.
func (t task) sure() (from, to int64) {
	return t.hi, t.lo + t.length
}

// weighs: is it there at some time, and needs something?
func (t task) weighs() bool {
	return t.length > 0 && t.need > 0
}

// tasks is what is known of all tasks, and the greatest that the limit may be; false, if something can not but be below 0.
func (c cumulative) tasks(w world) ([]task, int64, bool) {
	out := make([]task, len(c.start))
	_, limit, all := atLeast0(w, c.limit)
	for i := range out {
		lo, hi := w.bounds(c.start[i])
		length, _, one := atLeast0(w, c.length[i])
		need, _, two := atLeast0(w, c.need[i])
		all = all && one && two
		out[i] = task{lo: lo, hi: hi, length: length, need: need}
	}
	return out, limit, all
}

// stretch is a time, from one up to below another, at which so much is needed.
type stretch struct {
	from, to, need int64
}

// profile is the stretches at which something is needed, whenever the tasks begin, in order.
func profile(tasks []task) []stretch {
	type step struct{ at, more int64 }
	var steps []step
	for _, t := range tasks {
		if from, to := t.sure(); from < to && t.weighs() {
			steps = append(steps, step{from, t.need}, step{to, -t.need})
		}
	}
	slices.SortFunc(steps, func(a, b step) int { return cmp.Compare(a.at, b.at) })
	var out []stretch
	need := int64(0)
	for i, s := range steps {
		need += s.more
		if need > 0 && s.at < steps[i+1].at {
			out = append(out, stretch{s.at, steps[i+1].at, need})
		}
	}
	return out
}

// peak is the most that is needed at a time.
func peak(l []stretch) int64 {
	most := int64(0)
	for _, s := range l {
		most = max(most, s.need)
	}
	return most
}

// crowded: is there a time in which tasks are to be, all of them whole, that need more than there is? From when one of them may begin on, those that do not begin ahead of that are looked at by when they end at last.
func crowded(tasks []task, limit int64) bool {
	var l []task
	for _, t := range tasks {
		if t.weighs() {
			l = append(l, t)
		}
	}
	slices.SortFunc(l, func(a, b task) int { return cmp.Compare(a.hi+a.length, b.hi+b.length) })
	for _, first := range l {
		need := int64(0)
		for _, t := range l {
			if t.lo < first.lo {
				continue
			}
			need += t.length * t.need
			if need > limit*(t.hi+t.length-first.lo) {
				return true
			}
		}
	}
	return false
}

// can: is what is needed, whenever the tasks begin, not too much?
func (c cumulative) can(w world) bool {
	tasks, limit, ok := c.tasks(w)
	return ok && peak(profile(tasks)) <= limit
}

// narrow takes away what is below 0, and what would be too much together with what is needed anyway.
func (c cumulative) narrow(d domains) {
	keepFrom0(d, c.length...)
	keepFrom0(d, c.need...)
	tasks, limit, _ := c.tasks(d)
	anyway := profile(tasks)
	d.Cut(c.limit, peak(anyway), api.Big)
	if crowded(tasks, limit) {
		d.Fail()
	}
	for i, t := range tasks {
		if t.need > limit {
			d.Cut(c.length[i], 0, 0)
		}
		if t.length > 0 {
			d.Cut(c.limit, t.need, api.Big)
			d.Cut(c.need[i], 0, t.share(anyway, limit))
		}
		if t.weighs() {
			d.LeaveRanges(c.start[i], t.barred(anyway, limit))
		}
	}
}

// share is the most that a task may need, by what the others need where it is anyway.
func (t task) share(anyway []stretch, limit int64) int64 {
	most := limit
	for _, s := range anyway {
		if t.meets(s) {
			most = min(most, limit-(s.need-t.need))
		}
	}
	return most
}

// barred is when a task can not begin, for it would be too much where others are.
func (t task) barred(anyway []stretch, limit int64) []api.Range {
	var out []api.Range
	for _, s := range anyway {
		if !t.meets(s) && s.need+t.need > limit {
			out = append(out, api.Range{Lo: s.from - t.length + 1, Hi: s.to - 1})
		}
	}
	return out
}

// meets: is a task there anyway at some time of that stretch? If it needs something it is a part of the profile: so it is there all the time then, and its need is a part of the stretch's.
func (t task) meets(s stretch) bool {
	from, to := t.sure()
	return max(from, s.from) < min(to, s.to)
}
