package dom_test

import (
	"math"
	"slices"
	"testing"

	"jigsaw/api"
	"jigsaw/dom"
)

const (
	least    = math.MinInt64
	greatest = math.MaxInt64
	maxBig   = int64(api.Big)
)

func r(lo, hi int64) api.Range { return api.Range{Lo: lo, Hi: hi} }

func ranges(l ...api.Range) []api.Range { return l }

// comb is n ranges of one value each, every second number from first on.
func comb(n int, first int64) []api.Range {
	out := make([]api.Range, n)
	for i := range out {
		out[i] = r(first+2*int64(i), first+2*int64(i))
	}
	return out
}

// wrongs are lists that are not right, each in another way.
func wrongs() [][]api.Range {
	return [][]api.Range{
		ranges(r(2, 1)),
		ranges(r(1, 3), r(4, 6)),
		ranges(r(1, 3), r(3, 6)),
		ranges(r(5, 6), r(1, 2)),
		ranges(r(1, 2), r(1, 2)),
		ranges(r(-maxBig-1, 0)),
		ranges(r(0, maxBig+1)),
		ranges(r(1, 2), r(4, greatest)),
		ranges(r(least, greatest)),
		ranges(r(greatest, least)),
		ranges(r(0, greatest), r(least, 7)),
		ranges(r(1, 1), r(9, 8)),
		comb(api.MaxRanges+1, 0),
	}
}

// rights are lists that are right, at the edges too.
func rights() [][]api.Range {
	return [][]api.Range{
		nil,
		{},
		ranges(r(0, 0)),
		ranges(r(1, 2), r(5, 5)),
		ranges(r(-3, -1), r(1, 3)),
		ranges(r(-maxBig, maxBig)),
		ranges(r(-maxBig, -maxBig), r(maxBig, maxBig)),
		ranges(r(-maxBig, -maxBig+1), r(0, 5), r(maxBig-1, maxBig)),
		comb(api.MaxRanges, -4000),
		comb(api.MaxRanges, -maxBig),
	}
}

// small is each list of ranges of values from lo to lo + 7: by 8 bits.
func small(lo int64) [][]api.Range {
	var out [][]api.Range
	for mask := range 256 {
		out = append(out, ofMask(mask, lo))
	}
	return out
}

func ofMask(mask int, lo int64) []api.Range {
	var out []api.Range
	for i := int64(0); i < 8; i++ {
		if mask>>i&1 == 0 {
			continue
		}
		if n := len(out); n > 0 && out[n-1].Hi == lo+i-1 {
			out[n-1].Hi++
		} else {
			out = append(out, r(lo+i, lo+i))
		}
	}
	return out
}

func alike(t *testing.T, what string, got, want []api.Range) {
	t.Helper()
	if !slices.Equal(got, want) {
		t.Errorf("%s: %v; want %v", what, cutShort(got), cutShort(want))
	}
}

func alikeErr(t *testing.T, what string, got []api.Range, e api.Errno, want []api.Range, wantErr api.Errno) {
	t.Helper()
	alike(t, what, got, want)
	if e != wantErr {
		t.Errorf("%s: error %d; want %d", what, e, wantErr)
	}
}

func cutShort(l []api.Range) []api.Range { return l[:min(len(l), 20)] }

func collect(l []api.Range) []int64 { return slices.Collect(dom.Each(l)) }
