package dom_test

import (
	"slices"
	"testing"

	"jigsaw/api"
	"jigsaw/dom"
)

// P2.1: what is right, and what is not.
func TestRight(t *testing.T) {
	for _, l := range rights() {
		if !dom.Right(l) {
			t.Error("right, but told not to be", cutShort(l))
		}
	}
	for _, l := range wrongs() {
		if dom.Right(l) {
			t.Error("not right, but told to be", cutShort(l))
		}
	}
}

// P2.1: some values, in any order, any number of times.
func TestOf(t *testing.T) {
	for _, c := range []struct {
		values []int64
		want   []api.Range
		e      api.Errno
	}{
		{nil, nil, api.OK},
		{[]int64{5, 1, 2, 2}, ranges(r(1, 2), r(5, 5)), api.OK},
		{[]int64{3, 2, 1, 3}, ranges(r(1, 3)), api.OK},
		{[]int64{maxBig, -maxBig, 0}, ranges(r(-maxBig, -maxBig), r(0, 0), r(maxBig, maxBig)), api.OK},
		{[]int64{maxBig, maxBig - 1}, ranges(r(maxBig-1, maxBig)), api.OK},
		{[]int64{0, maxBig + 1}, nil, api.ErrDom},
		{[]int64{-maxBig - 1, 0}, nil, api.ErrDom},
		{[]int64{least}, nil, api.ErrDom},
		{[]int64{greatest, 1}, nil, api.ErrDom},
	} {
		kept := slices.Clone(c.values)
		l, e := dom.Of(c.values...)
		alikeErr(t, "Of", l, e, c.want, c.e)
		if !slices.Equal(c.values, kept) {
			t.Error("Of changed its argument", kept)
		}
	}
}

// P2.1: as many ranges as there may be, one more, and ErrDom ahead of ErrFull.
func TestOfManyValues(t *testing.T) {
	var values []int64
	for i := range int64(api.MaxRanges) {
		values = append(values, 2*(int64(api.MaxRanges)-i))
	}
	l, e := dom.Of(values...)
	alikeErr(t, "Of at the limit", l, e, comb(api.MaxRanges, 2), api.OK)
	l, e = dom.Of(append(values, 0)...)
	alikeErr(t, "Of beyond the limit", l, e, nil, api.ErrFull)
	l, e = dom.Of(append(values, 0, maxBig+1)...)
	alikeErr(t, "Of beyond both", l, e, nil, api.ErrDom)
	var all []int64
	for i := range int64(2 * api.MaxRanges) {
		all = append(all, i)
	}
	l, e = dom.Of(all...)
	alikeErr(t, "Of many values that touch", l, e, ranges(r(0, 2*api.MaxRanges-1)), api.OK)
}

// P2.1: both ends are asked for, even if there is no value between them.
func TestSpan(t *testing.T) {
	for _, c := range []struct {
		lo, hi int64
		want   []api.Range
		e      api.Errno
	}{
		{1, 9, ranges(r(1, 9)), api.OK},
		{4, 4, ranges(r(4, 4)), api.OK},
		{5, 4, nil, api.OK},
		{maxBig, -maxBig, nil, api.OK},
		{-maxBig, maxBig, ranges(r(-maxBig, maxBig)), api.OK},
		{-maxBig - 1, 0, nil, api.ErrDom},
		{0, maxBig + 1, nil, api.ErrDom},
		{maxBig + 1, 0, nil, api.ErrDom},
		{0, -maxBig - 1, nil, api.ErrDom},
		{maxBig + 1, maxBig + 2, nil, api.ErrDom},
		{least, greatest, nil, api.ErrDom},
		{greatest, least, nil, api.ErrDom},
	} {
		l, e := dom.Span(c.lo, c.hi)
		alikeErr(t, "Span", l, e, c.want, c.e)
	}
}

// P2.1: any ranges are made right.
func TestNorm(t *testing.T) {
	for _, c := range []struct {
		l, want []api.Range
		e       api.Errno
	}{
		{nil, nil, api.OK},
		{ranges(r(1, 3), r(4, 6)), ranges(r(1, 6)), api.OK},
		{ranges(r(4, 6), r(1, 2)), ranges(r(1, 2), r(4, 6)), api.OK},
		{ranges(r(1, 9), r(3, 4), r(9, 9), r(1, 1)), ranges(r(1, 9)), api.OK},
		{ranges(r(3, 4), r(1, 9)), ranges(r(1, 9)), api.OK},
		{ranges(r(2, 1)), nil, api.OK},
		{ranges(r(greatest, least), r(5, 6), r(maxBig+2, maxBig+1), r(-maxBig-1, -maxBig-2)), ranges(r(5, 6)), api.OK},
		{ranges(r(-maxBig, 0), r(1, maxBig)), ranges(r(-maxBig, maxBig)), api.OK},
		{ranges(r(1, 2), r(0, maxBig+1)), nil, api.ErrDom},
		{ranges(r(-maxBig-1, 0)), nil, api.ErrDom},
		{ranges(r(least, greatest)), nil, api.ErrDom},
		{ranges(r(maxBig+1, maxBig+1)), nil, api.ErrDom},
		{comb(api.MaxRanges, 0), comb(api.MaxRanges, 0), api.OK},
		{comb(api.MaxRanges+1, 0), nil, api.ErrFull},
		{append(comb(api.MaxRanges+1, 0), r(0, maxBig+1)), nil, api.ErrDom},
		{append(comb(api.MaxRanges+1, 0), r(7, 9)), joinedComb(), api.OK},
		{append(comb(2*api.MaxRanges, 0), r(0, 4*api.MaxRanges)), ranges(r(0, 4*api.MaxRanges)), api.OK},
	} {
		kept := slices.Clone(c.l)
		l, e := dom.Norm(c.l)
		alikeErr(t, "Norm", l, e, c.want, c.e)
		alike(t, "what Norm was given", c.l, kept)
	}
	for _, l := range rights() {
		n, e := dom.Norm(l)
		alikeErr(t, "Norm of what is right", n, e, l, api.OK)
	}
}

// joinedComb is one range too many of one value each, the fourth to the sixth of which are joined.
func joinedComb() []api.Range {
	l := comb(api.MaxRanges+1, 0)
	return slices.Concat(l[:3], ranges(r(6, 10)), l[6:])
}

// P2.2: Has, Size, Min, Max, Next at the edges.
func TestAsk(t *testing.T) {
	l := ranges(r(1, 2), r(7, 9))
	for _, c := range []struct {
		v, next   int64
		has, some bool
	}{
		{least, 1, false, true}, {0, 1, false, true}, {1, 1, true, true}, {2, 2, true, true}, {3, 7, false, true},
		{6, 7, false, true}, {7, 7, true, true}, {8, 8, true, true}, {9, 9, true, true}, {10, 0, false, false}, {greatest, 0, false, false},
	} {
		if dom.Has(l, c.v) != c.has {
			t.Error("Has", c.v)
		}
		if n, ok := dom.Next(l, c.v); n != c.next || ok != c.some {
			t.Error("Next", c.v, n, ok)
		}
	}
	lo, okLo := dom.Min(l)
	hi, okHi := dom.Max(l)
	if lo != 1 || hi != 9 || !okLo || !okHi || dom.Size(l) != 5 {
		t.Error("Min, Max, Size", lo, hi, dom.Size(l))
	}
	whole := ranges(r(-maxBig, maxBig))
	lo, _ = dom.Min(whole)
	hi, _ = dom.Max(whole)
	if lo != -maxBig || hi != maxBig || dom.Size(whole) != 2*maxBig+1 || dom.Has(whole, maxBig+1) || !dom.Has(whole, -maxBig) {
		t.Error("of all values", lo, hi, dom.Size(whole))
	}
}

// P2.2: ranges that are not right, and none, are none.
func TestAskOfNone(t *testing.T) {
	for _, l := range append(wrongs(), nil, []api.Range{}) {
		for _, v := range []int64{least, -1, 0, 1, 2, 5, greatest} {
			if dom.Has(l, v) {
				t.Error("Has", cutShort(l), v)
			}
			if n, ok := dom.Next(l, v); n != 0 || ok {
				t.Error("Next", cutShort(l), v, n, ok)
			}
		}
		lo, okLo := dom.Min(l)
		hi, okHi := dom.Max(l)
		if dom.Size(l) != 0 || lo != 0 || hi != 0 || okLo || okHi {
			t.Error("Size, Min, Max", cutShort(l))
		}
		if got := collect(l); len(got) != 0 {
			t.Error("Each", cutShort(l), got)
		}
	}
}

// P2.2: the iterator can be left, gone through again, and keeps no list of the caller's.
func TestEach(t *testing.T) {
	l := ranges(r(1, 2), r(5, 5))
	each := dom.Each(l)
	l[0] = r(-9, 9)
	for range 2 {
		if got := slices.Collect(each); !slices.Equal(got, []int64{1, 2, 5}) {
			t.Error("Each", got)
		}
	}
	var got []int64
	for v := range dom.Each(ranges(r(-maxBig, maxBig))) {
		if v > -maxBig+2 {
			break
		}
		got = append(got, v)
	}
	if !slices.Equal(got, []int64{-maxBig, -maxBig + 1, -maxBig + 2}) {
		t.Error("Each, left", got)
	}
	n := int64(0)
	for v := range dom.Each(ranges(r(maxBig-1, maxBig))) {
		n += v
	}
	if n != 2*maxBig-1 {
		t.Error("Each at the upper end", n)
	}
}

// P2.7: as many values as Size says, each of which is there, rising; and their ranges are l.
func TestEachFits(t *testing.T) {
	for _, l := range slices.Concat(rights(), small(-4), small(maxBig-7), small(-maxBig)) {
		values := collect(l)
		if int64(len(values)) != dom.Size(l) || !slices.IsSorted(values) {
			t.Error("Each, Size", cutShort(l), len(values), dom.Size(l))
		}
		for i, v := range values {
			if len(l) < 20 && len(values) < 1000 && !dom.Has(l, v) {
				t.Error("Each, Has", l, v)
			}
			if i > 0 && v <= values[i-1] {
				t.Fatal("Each does not rise", cutShort(l))
			}
		}
		back, e := dom.Of(values...)
		alikeErr(t, "Of of Each", back, e, l, api.OK)
	}
}
