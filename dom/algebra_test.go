package dom_test

import (
	"slices"
	"testing"

	"jigsaw/api"
	"jigsaw/dom"
)

// wanted is the right ranges of those values from lo to lo + 7 for which keep holds.
func wanted(lo int64, keep func(v int64) bool) []api.Range {
	mask := 0
	for i := range int64(8) {
		if keep(lo + i) {
			mask |= 1 << i
		}
	}
	return ofMask(mask, lo)
}

// inList is membership, looked up without package dom.
func inList(l []api.Range, v int64) bool {
	return slices.ContainsFunc(l, func(x api.Range) bool { return x.Lo <= v && v <= x.Hi })
}

// P2.3, P2.6: of all pairs of small lists, in the middle and at both ends.
func TestAlgebraOfSmallLists(t *testing.T) {
	for _, lo := range []int64{-4, -maxBig, maxBig - 7} {
		all := small(lo)
		for _, a := range all {
			for _, b := range all {
				inA := func(v int64) bool { return inList(a, v) }
				inB := func(v int64) bool { return inList(b, v) }
				alike(t, "Both", dom.Both(a, b), wanted(lo, func(v int64) bool { return inA(v) && inB(v) }))
				either, e := dom.Either(a, b)
				alikeErr(t, "Either", either, e, wanted(lo, func(v int64) bool { return inA(v) || inB(v) }), api.OK)
				less, e := dom.Less(a, b)
				alikeErr(t, "Less", less, e, wanted(lo, func(v int64) bool { return inA(v) && !inB(v) }), api.OK)
				if dom.Same(a, b) != slices.Equal(a, b) {
					t.Error("Same", a, b)
				}
				if dom.Within(a, b) != (len(less) == 0) {
					t.Error("Within", a, b)
				}
			}
		}
	}
}

// P2.3: Cut and Without of small lists.
func TestCutAndWithout(t *testing.T) {
	for _, lo := range []int64{-4, -maxBig, maxBig - 7} {
		for _, l := range small(lo) {
			for i := int64(-1); i <= 8; i++ {
				alike(t, "Without", dom.Without(l, lo+i), wanted(lo, func(v int64) bool { return inList(l, v) && v != lo+i }))
				for j := int64(-1); j <= 8; j++ {
					alike(t, "Cut", dom.Cut(l, lo+i, lo+j), wanted(lo, func(v int64) bool { return inList(l, v) && lo+i <= v && v <= lo+j }))
				}
			}
			for _, v := range []int64{least, greatest, -maxBig - 1, maxBig + 1} {
				alike(t, "Without", dom.Without(l, v), l)
			}
			alike(t, "Cut of all", dom.Cut(l, least, greatest), l)
			alike(t, "Cut of nothing", dom.Cut(l, greatest, least), nil)
			alike(t, "Cut below", dom.Cut(l, least, -maxBig-1), nil)
			alike(t, "Cut above", dom.Cut(l, maxBig+1, greatest), nil)
		}
	}
}

// P2.3, P2.6: Not, and Not of Not.
func TestNot(t *testing.T) {
	whole := ranges(r(-maxBig, maxBig))
	alike(t, "Not of none", dom.Not(nil), whole)
	alike(t, "Not of all", dom.Not(whole), nil)
	alike(t, "Not", dom.Not(ranges(r(1, 2), r(7, 9))), ranges(r(-maxBig, 0), r(3, 6), r(10, maxBig)))
	alike(t, "Not of the ends", dom.Not(ranges(r(-maxBig, -maxBig), r(maxBig, maxBig))), ranges(r(-maxBig+1, maxBig-1)))
	alike(t, "Not at the limit", dom.Not(dom.Not(comb(api.MaxRanges, -maxBig))), comb(api.MaxRanges, -maxBig))
	alike(t, "Not beyond the limit", dom.Not(comb(api.MaxRanges, 0)), nil)
	for _, lo := range []int64{-4, -maxBig, maxBig - 7} {
		for _, l := range small(lo) {
			not := dom.Not(l)
			if !dom.Right(not) || dom.Size(not)+dom.Size(l) != 2*maxBig+1 || len(dom.Both(not, l)) != 0 {
				t.Error("Not", l, not)
			}
			alike(t, "Not of Not", dom.Not(not), l)
		}
	}
}

// P2.3: at the limit of ranges, and beyond it.
func TestAlgebraAtTheLimit(t *testing.T) {
	full := comb(api.MaxRanges, 0)
	wide := slices.Clone(full)
	wide[api.MaxRanges-1].Hi += 2
	last := wide[api.MaxRanges-1]
	alike(t, "Without that would be too many", dom.Without(wide, last.Lo+1), wide)
	alike(t, "Without at an end", dom.Without(wide, last.Hi), append(slices.Clone(wide[:api.MaxRanges-1]), r(last.Lo, last.Hi-1)))
	alike(t, "Without of a whole range", dom.Without(full, 0), full[1:])

	l, e := dom.Either(full[:4095], ranges(r(9000, 9001)))
	alikeErr(t, "Either at the limit", l, e, append(slices.Clone(full[:4095]), r(9000, 9001)), api.OK)
	l, e = dom.Either(full, ranges(r(9000, 9001)))
	alikeErr(t, "Either beyond the limit", l, e, nil, api.ErrFull)
	l, e = dom.Either(full, ranges(r(1, 1)))
	alikeErr(t, "Either that joins", l, e, slices.Concat(ranges(r(0, 2)), full[2:]), api.OK)

	whole := ranges(r(-maxBig, maxBig))
	l, e = dom.Less(whole, comb(api.MaxRanges, 0))
	alikeErr(t, "Less beyond the limit", l, e, nil, api.ErrFull)
	l, e = dom.Less(whole, comb(api.MaxRanges, -maxBig))
	alikeErr(t, "Less at the limit", l, e, dom.Not(comb(api.MaxRanges, -maxBig)), api.OK)
	if len(l) != api.MaxRanges || !dom.Right(l) {
		t.Error("Less at the limit", len(l))
	}
	l, e = dom.Less(ranges(r(1, 100000)), full)
	if e != api.OK || len(l) != api.MaxRanges {
		t.Error("Less at the limit", len(l), e)
	}
}

// P2.3: Both is a as it is, where there would be too many ranges; that needs ranges of both that overlap crosswise.
func TestBothBeyondTheLimit(t *testing.T) {
	var a, b []api.Range
	for i := range int64(api.MaxRanges) {
		a = append(a, r(10*i, 10*i+6))
		b = append(b, r(10*i-4, 10*i+2))
	}
	if !dom.Right(a) || !dom.Right(b) {
		t.Fatal("not right")
	}
	kept := slices.Clone(a)
	alike(t, "Both, too many", dom.Both(a, b), a)
	spoil(dom.Both(a, b))
	alike(t, "what Both answers as it is", a, kept)
	alike(t, "Both, too many, turned", dom.Both(b, a), b)
	if got := dom.Both(a[:2048], b[:2048]); len(got) != 4095 || !dom.Right(got) {
		t.Error("Both below the limit", len(got))
	}
	if got := dom.Both(a[:2049], b[:2049]); !slices.Equal(got, a[:2049]) {
		t.Error("Both just beyond the limit", len(got))
	}
	if got := dom.Both(a[:2049], b[:2048]); len(got) != 4095 {
		t.Error("Both below the limit", len(got))
	}
	if got := dom.Both(a[:2048], b[:2049]); len(got) != 4096 || !dom.Right(got) {
		t.Error("Both at the limit", len(got))
	}
}

// P2.3: ranges that are not right are none.
func TestAlgebraOfWrongLists(t *testing.T) {
	some := ranges(r(1, 2), r(5, 5))
	for _, w := range wrongs() {
		kept := slices.Clone(w)
		alike(t, "Cut", dom.Cut(w, least, greatest), nil)
		alike(t, "Without", dom.Without(w, 1), nil)
		alike(t, "Without what is not there", dom.Without(w, greatest), nil)
		alike(t, "Both", dom.Both(w, some), nil)
		alike(t, "Both", dom.Both(some, w), nil)
		l, e := dom.Either(w, some)
		alikeErr(t, "Either", l, e, some, api.OK)
		l, e = dom.Either(some, w)
		alikeErr(t, "Either", l, e, some, api.OK)
		l, e = dom.Less(w, some)
		alikeErr(t, "Less", l, e, nil, api.OK)
		l, e = dom.Less(some, w)
		alikeErr(t, "Less", l, e, some, api.OK)
		alike(t, "Not", dom.Not(w), ranges(r(-maxBig, maxBig)))
		if !dom.Same(w, nil) || !dom.Same(nil, w) || dom.Same(w, some) || !dom.Within(w, some) || dom.Within(some, w) || !dom.Within(w, w) {
			t.Error("Same, Within", cutShort(w))
		}
		if dom.Text(w) != "{}" {
			t.Error("Text", cutShort(w))
		}
		alike(t, "what was handed in", w, kept)
	}
}

// spoil writes into an answer, and appends to it.
func spoil(l []api.Range) {
	_ = append(l, r(77, 78))
	for i := range l {
		l[i] = r(99, 98)
	}
}

// Rules 4 and 5: no answer shares memory with an argument, and no argument is changed.
func TestAnswersAreNew(t *testing.T) {
	for _, l := range [][]api.Range{ranges(r(1, 2), r(5, 5)), comb(api.MaxRanges, 0), ranges(r(-maxBig, maxBig))} {
		a := append(make([]api.Range, 0, len(l)+9), l...)
		b := slices.Clone(a)
		whole := ranges(r(-maxBig, maxBig))
		none := ranges()
		for range 2 {
			spoil(dom.Cut(a, least, greatest))
			spoil(dom.Without(a, greatest))
			spoil(dom.Without(a, 4))
			spoil(dom.Both(a, b))
			spoil(dom.Both(a, whole))
			spoil(dom.Not(a))
			for _, f := range []func(a, b []api.Range) ([]api.Range, api.Errno){dom.Either, dom.Less} {
				for _, other := range [][]api.Range{b, whole, none, nil} {
					got, _ := f(a, other)
					spoil(got)
					got, _ = f(other, a)
					spoil(got)
				}
			}
			got, _ := dom.Norm(a)
			spoil(got)
			alike(t, "an argument", a, l)
			alike(t, "an argument", b, l)
			alike(t, "an argument", whole, ranges(r(-maxBig, maxBig)))
			if rest := a[:cap(a)][len(a):]; slices.Contains(rest, r(77, 78)) {
				t.Error("an answer shares an argument's memory")
			}
		}
	}
	full := comb(api.MaxRanges, 0)
	full[0] = r(-9, 0)
	want := slices.Clone(full)
	spoil(dom.Without(full, -5))
	alike(t, "what Without answers as it is", full, want)
}
