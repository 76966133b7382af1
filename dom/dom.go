// Package dom is layer 2: domains as ranges. See shared/doc/02-dom.md.
package dom

import (
	"cmp"
	"iter"
	"slices"

	"jigsaw/api"
)

// Right: are ranges right?
func Right(l []api.Range) bool {
	if len(l) > api.MaxRanges {
		return false
	}
	for i, r := range l {
		if r.Lo > r.Hi || !inBounds(r) {
			return false
		}
		if i > 0 && r.Lo <= l[i-1].Hi+1 {
			return false
		}
	}
	return true
}

// inBounds: are both ends from -Big to Big? Each end is asked for both bounds, for Span's may be in any order.
func inBounds(r api.Range) bool {
	return min(r.Lo, r.Hi) >= -api.Big && max(r.Lo, r.Hi) <= api.Big
}

// known is l, or none, if it is not right: as all calls but Right and Norm take it.
func known(l []api.Range) []api.Range {
	if !Right(l) {
		return nil
	}
	return l
}

// Of is the ranges of some values.
func Of(values ...int64) ([]api.Range, api.Errno) {
	l := make([]api.Range, 0, len(values))
	for _, v := range values {
		l = append(l, api.Range{Lo: v, Hi: v})
	}
	return Norm(l)
}

// Span is all values from lo to hi.
func Span(lo, hi int64) ([]api.Range, api.Errno) {
	r := api.Range{Lo: lo, Hi: hi}
	if !inBounds(r) {
		return nil, api.ErrDom
	}
	return Norm([]api.Range{r})
}

// Norm is any ranges, made right.
func Norm(l []api.Range) ([]api.Range, api.Errno) {
	var some []api.Range
	for _, r := range l {
		switch {
		case r.Lo > r.Hi: // plays no part, whatever its ends are
		case !inBounds(r):
			return nil, api.ErrDom
		default:
			some = append(some, r)
		}
	}
	slices.SortFunc(some, func(a, b api.Range) int { return cmp.Compare(a.Lo, b.Lo) })
	return join(slices.Values(some))
}

// join is the right ranges of ranges that come by rising Lo.
func join(ranges iter.Seq[api.Range]) ([]api.Range, api.Errno) {
	var out []api.Range
	for r := range ranges {
		last := len(out) - 1
		switch {
		case last >= 0 && r.Lo <= out[last].Hi+1:
			out[last].Hi = max(out[last].Hi, r.Hi)
		case len(out) == api.MaxRanges:
			return nil, api.ErrFull
		default:
			out = append(out, r)
		}
	}
	return out, api.OK
}

// Has: is v a value?
func Has(l []api.Range, v int64) bool {
	next, ok := Next(l, v)
	return ok && next == v
}

// Size is how many values there are.
func Size(l []api.Range) int64 {
	n := int64(0)
	for _, r := range known(l) {
		n += r.Hi - r.Lo + 1
	}
	return n
}

// Min is the least value; false of none.
func Min(l []api.Range) (int64, bool) {
	l = known(l)
	if len(l) == 0 {
		return 0, false
	}
	return l[0].Lo, true
}

// Max is the greatest value; false of none.
func Max(l []api.Range) (int64, bool) {
	l = known(l)
	if len(l) == 0 {
		return 0, false
	}
	return l[len(l)-1].Hi, true
}

// Next is the least value that is not below v; false, if there is none.
func Next(l []api.Range, v int64) (int64, bool) {
	next, found := int64(0), false
search:
	for _, r := range known(l) {
		switch {
		case v <= r.Lo:
			next, found = r.Lo, true
			break search
		case v <= r.Hi:
			next, found = v, true
			break search
		}
	}
	return next, found
}

// Each is all values, rising. They are those at the time of the call: what is written into l later plays no part.
func Each(l []api.Range) iter.Seq[int64] {
	own := slices.Clone(known(l))
	return func(yield func(int64) bool) {
		for _, r := range own {
			for v := r.Lo; v <= r.Hi; v++ {
				if !yield(v) {
					return
				}
			}
		}
	}
}
