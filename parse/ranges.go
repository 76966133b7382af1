package parse

import (
	"iter"
	"slices"

	"jigsaw/api"
)

// What stands here is as package dom has it, which this layer does not call.

// ofValues is the right ranges of some values, in any order, any number of times.
func ofValues(values []int64) []api.Range {
	var out []api.Range
	for _, v := range slices.Sorted(slices.Values(values)) {
		last := len(out) - 1
		if last >= 0 && v <= out[last].Hi+1 {
			out[last].Hi = v
		} else {
			out = append(out, api.Range{Lo: v, Hi: v})
		}
	}
	return out
}

// right: are ranges right?
func right(l []api.Range) bool {
	from := int64(-api.Big)
	for _, r := range l {
		if r.Lo < from || r.Lo > r.Hi || r.Hi > api.Big {
			return false
		}
		from = r.Hi + 2
	}
	return len(l) <= api.MaxRanges
}

// values is all values of right ranges, rising.
func values(l []api.Range) iter.Seq[int64] {
	return func(yield func(int64) bool) {
		for _, r := range l {
			for v := r.Lo; v <= r.Hi; v++ {
				if !yield(v) {
					return
				}
			}
		}
	}
}
