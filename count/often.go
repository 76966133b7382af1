package count

import (
	"slices"

	"jigsaw/api"
	"jigsaw/dom"
	"jigsaw/family"
)

// often is how often each of some values stands among terms, at least and at most.
type often struct {
	values []int64
	sure   []int64
	may    []int64
	least  int64   // how many terms have one of the values, at least
	most   int64   // and at most
	can    [][]int // of each term that has several values which of these it may have
}

// oftenOf is how often each of some values, rising, stands among terms.
func oftenOf(d *family.Doms, terms []api.Term, values []int64) often {
	n := len(values)
	o := often{values: values, sure: make([]int64, n), may: make([]int64, n), can: make([][]int, len(terms))}
	in, _ := dom.Of(values...)
	for k, t := range terms {
		if v, ok := d.Fixed(t); ok {
			o.stands(v)
			continue
		}
		i := 0
		for v := range dom.Each(dom.Both(in, d.Get(t).R)) {
			for values[i] < v {
				i++
			}
			o.may[i]++
			o.can[k] = append(o.can[k], i)
		}
		if len(o.can[k]) > 0 {
			o.most++
		}
		if int64(len(o.can[k])) == dom.Size(d.Get(t).R) {
			o.least++
		}
	}
	return o
}

// stands counts the only value of a term, if it is one of the values.
func (o *often) stands(v int64) {
	if i, found := slices.BinarySearch(o.values, v); found {
		o.sure[i]++
		o.may[i]++
		o.least++
		o.most++
	}
}
