package dom

import (
	"iter"
	"slices"

	"jigsaw/api"
)

// overlaps tells the ranges of the values that are in both, rising. Of right ranges none of them touch.
func overlaps(a, b []api.Range) iter.Seq[api.Range] {
	return func(yield func(api.Range) bool) {
		for i, j := 0, 0; i < len(a) && j < len(b); {
			r := api.Range{Lo: max(a[i].Lo, b[j].Lo), Hi: min(a[i].Hi, b[j].Hi)}
			if r.Lo <= r.Hi && !yield(r) {
				return
			}
			if a[i].Hi < b[j].Hi {
				i++
			} else {
				j++
			}
		}
	}
}

// gaps is the ranges of the values from -Big to Big that are not in l, which is right. They may be one more than MaxRanges.
func gaps(l []api.Range) []api.Range {
	var out []api.Range
	from := int64(-api.Big)
	for _, r := range l {
		if from < r.Lo {
			out = append(out, api.Range{Lo: from, Hi: r.Lo - 1})
		}
		from = r.Hi + 1
	}
	if from <= api.Big {
		out = append(out, api.Range{Lo: from, Hi: api.Big})
	}
	return out
}

// Cut is the values from lo to hi. If lo is above hi, nothing overlaps.
func Cut(l []api.Range, lo, hi int64) []api.Range {
	out, _ := join(overlaps(known(l), []api.Range{{Lo: lo, Hi: hi}}))
	return out
}

// Without is all values but v; l as it is, if that would be too many ranges. (A v beyond Big is taken as none, so nothing goes.)
func Without(l []api.Range, v int64) []api.Range {
	out, e := Less(l, []api.Range{{Lo: v, Hi: v}})
	if e != api.OK {
		return slices.Clone(l)
	}
	return out
}

// Both is the values that are in both; a as it is, if that would be too many ranges.
func Both(a, b []api.Range) []api.Range {
	a = known(a)
	out, e := join(overlaps(a, known(b)))
	if e != api.OK {
		return slices.Clone(a)
	}
	return out
}

// Either is the values that are in one of both.
func Either(a, b []api.Range) ([]api.Range, api.Errno) {
	return Norm(slices.Concat(known(a), known(b)))
}

// Less is the values that are in a and not in b.
func Less(a, b []api.Range) ([]api.Range, api.Errno) {
	return join(overlaps(known(a), gaps(known(b))))
}

// Not is all values from -Big to Big that are not in l; none, if that would be too many ranges.
func Not(l []api.Range) []api.Range {
	out := gaps(known(l))
	if len(out) > api.MaxRanges {
		return nil
	}
	return out
}

// Same: have they the same values? Right ranges of the same values are the same ranges.
func Same(a, b []api.Range) bool {
	return slices.Equal(known(a), known(b))
}

// Within: is each value of a in b?
func Within(a, b []api.Range) bool {
	b = known(b)
	at := 0
ranges:
	for _, r := range known(a) {
		// Ranges of b do not touch, so one of them alone must hold all of r.
		for ; at < len(b); at++ {
			if b[at].Lo <= r.Lo && r.Hi <= b[at].Hi {
				continue ranges
			}
		}
		return false
	}
	return true
}
