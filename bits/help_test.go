package bits_test

import (
	"math"
	"slices"
	"testing"

	"jigsaw/api"
	"jigsaw/bits"
)

const (
	least    = math.MinInt64
	greatest = math.MaxInt64
	maxBig   = int64(api.Big)
)

func r(lo, hi int64) api.Range { return api.Range{Lo: lo, Hi: hi} }

func ranges(l ...api.Range) []api.Range { return l }

// comb is n ranges of one value each, every second number from first on.
func comb(n int, first int64) []api.Range {
	out := make([]api.Range, n)
	for i := range out {
		out[i] = r(first+2*int64(i), first+2*int64(i))
	}
	return out
}

// wrongs are lists that are not right, each in another way.
func wrongs() [][]api.Range {
	return [][]api.Range{
		ranges(r(2, 1)),
		ranges(r(1, 3), r(4, 6)),
		ranges(r(5, 6), r(1, 2)),
		ranges(r(1, 2), r(1, 2)),
		ranges(r(-maxBig-1, 0)),
		ranges(r(0, maxBig+1)),
		ranges(r(least, greatest)),
		ranges(r(greatest, least)),
		comb(api.MaxRanges+1, 0),
	}
}

// room is a set with that room and those values.
func room(t *testing.T, lo, hi int64, values ...int64) *bits.Set {
	t.Helper()
	s, e := bits.New(lo, hi)
	if e != api.OK {
		t.Fatal("New", lo, hi, e)
	}
	for _, v := range values {
		if ok, e := s.Add(v); !ok || e != api.OK {
			t.Fatal("Add", v, ok, e)
		}
	}
	return s
}

func of(t *testing.T, l []api.Range) *bits.Set {
	t.Helper()
	s, e := bits.Of(l)
	if e != api.OK {
		t.Fatal("Of", l, e)
	}
	return s
}

func values(s *bits.Set) []int64 { return slices.Collect(s.Each()) }

func alike(t *testing.T, what string, s *bits.Set, want ...int64) {
	t.Helper()
	if got := values(s); !slices.Equal(got, want) {
		t.Errorf("%s: %v; want %v", what, got, want)
	}
}

func answer(t *testing.T, what string, ok bool, e api.Errno, wantOk bool, wantErr api.Errno) {
	t.Helper()
	if ok != wantOk || e != wantErr {
		t.Errorf("%s: %v, %d; want %v, %d", what, ok, e, wantOk, wantErr)
	}
}
