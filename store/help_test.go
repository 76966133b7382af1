package store_test

import (
	"fmt"
	"math"
	"slices"
	"testing"

	"jigsaw/api"
	"jigsaw/dom"
	"jigsaw/sets"
	"jigsaw/store"
)

const (
	least    = math.MinInt64
	greatest = math.MaxInt64
	maxBig   = int64(api.Big)
)

func r(lo, hi int64) api.Range { return api.Range{Lo: lo, Hi: hi} }

// num is the domain of a whole number with these ranges.
func num(l ...api.Range) api.Dom { return api.Dom{R: l} }

func list(l ...int64) []int64 { return l }

func set(lo, up []int64, least, most int) api.Dom {
	return api.Dom{Set: true, Lo: lo, Up: up, Least: least, Most: most}
}

// noSet is the empty domain of a set.
func noSet() api.Dom { return set(nil, nil, 1, 0) }

// comb is n ranges of one value each, every second number from first on.
func comb(n int, first int64) []api.Range {
	out := make([]api.Range, n)
	for i := range out {
		out[i] = r(first+2*int64(i), first+2*int64(i))
	}
	return out
}

// run is n values, one behind the other, from first on.
func run(n int, first int64) []int64 {
	out := make([]int64, n)
	for i := range out {
		out[i] = first + int64(i)
	}
	return out
}

// wrongDoms are domains that can not be, each in another way.
func wrongDoms() []api.Dom {
	return []api.Dom{
		num(r(2, 1)), num(r(1, 3), r(4, 6)), num(r(1, 3), r(3, 6)), num(r(5, 6), r(1, 2)), num(r(-maxBig-1, 0)), num(r(0, maxBig+1)), num(r(least, greatest)), num(comb(api.MaxRanges+1, 0)...),
		{R: []api.Range{r(1, 2)}, Lo: list(1)},
		{R: []api.Range{r(1, 2)}, Up: list(1)},
		{R: []api.Range{r(1, 2)}, Least: 1},
		{R: []api.Range{r(1, 2)}, Most: 1},
		{R: []api.Range{r(1, 2)}, Least: -1},
		{R: []api.Range{r(1, 2)}, Most: math.MinInt},
		{Least: 1},
		{Lo: list(1), Up: list(1), Least: 1, Most: 1},
		{Set: true, R: []api.Range{r(1, 2)}},
		{Set: true, R: []api.Range{r(1, 2)}, Least: 1},
		{Set: true, R: []api.Range{r(1, 2)}, Up: list(1), Most: 1},
		set(list(1), list(2), 1, 1), set(list(1), nil, 1, 1), set(nil, list(2, 1), 0, 1), set(nil, list(1, 1), 0, 1), set(list(2, 1), list(1, 2), 2, 2),
		set(nil, list(1, 2), -1, 2), set(nil, list(1, 2), 0, 3), set(nil, list(1, 2), 2, 1), set(list(1), list(1, 2), 0, 2), set(list(1), list(1), 1, 0),
		set(nil, nil, 2, 0), set(nil, nil, 1, -1), set(nil, nil, math.MinInt, math.MaxInt), set(nil, nil, math.MaxInt, math.MinInt),
		set(nil, list(maxBig+1), 0, 1), set(nil, list(least, greatest), 0, 1), set(nil, run(api.MaxElems+1, 0), 0, 1),
	}
}

// numDoms is all domains of values from 0 to 4, the empty one first.
func numDoms() []api.Dom {
	var out []api.Dom
	for mask := range 32 {
		var values []int64
		for v := range int64(5) {
			if mask>>v&1 == 1 {
				values = append(values, v)
			}
		}
		l, _ := dom.Of(values...)
		out = append(out, num(l...))
	}
	return out
}

// setDoms is all domains of sets of elements of 1, 2 and 3 that can be, tight or not, the empty one first.
func setDoms() []api.Dom {
	parts := func(l []int64) [][]int64 {
		var out [][]int64
		for mask := range 1 << len(l) {
			var part []int64
			for i, v := range l {
				if mask>>i&1 == 1 {
					part = append(part, v)
				}
			}
			out = append(out, part)
		}
		return out
	}
	out := []api.Dom{noSet()}
	for _, up := range parts(list(1, 2, 3)) {
		for _, lo := range parts(up) {
			for least := len(lo); least <= len(up); least++ {
				for most := least; most <= len(up); most++ {
					out = append(out, set(lo, up, least, most))
				}
			}
		}
	}
	return out
}

// both is what is in both, of one kind.
func both(a, b api.Dom) api.Dom {
	if a.Set {
		return sets.Both(a, b)
	}
	return num(dom.Both(a.R, b.R)...)
}

// values is all values of a domain, each as text.
func values(d api.Dom) []string {
	var out []string
	if d.Set {
		for l := range sets.Each(d) {
			out = append(out, sets.Text(l))
		}
		return out
	}
	for v := range dom.Each(d.R) {
		out = append(out, fmt.Sprint(v))
	}
	return out
}

// happened is what the document says of a domain that became smaller; 0, if nothing is told. Domains of sets are tight.
func happened(old, next api.Dom) int {
	before, now := values(old), values(next)
	switch {
	case len(now) == len(before) || len(now) == 0:
		return 0
	case len(now) == 1:
		return store.Fixed
	case old.Set && (!slices.Equal(old.Lo, next.Lo) || old.Least != next.Least || old.Most != next.Most):
		return store.Bounds
	case !old.Set && (before[0] != now[0] || before[len(before)-1] != now[len(now)-1]):
		return store.Bounds
	}
	return store.Inside
}

func alikeDom(t *testing.T, what string, got, want api.Dom) {
	t.Helper()
	if !sameDom(got, want) {
		t.Errorf("%s: %v; want %v", what, got, want)
	}
}

// sameDom holds domains against each other, field by field.
func sameDom(a, b api.Dom) bool {
	return a.Set == b.Set && slices.Equal(a.R, b.R) && slices.Equal(a.Lo, b.Lo) && slices.Equal(a.Up, b.Up) && a.Least == b.Least && a.Most == b.Most
}

func sameDoms(a, b []api.Dom) bool { return slices.EqualFunc(a, b, sameDom) }

func sameVal(a, b api.Val) bool {
	return a.Set == b.Set && a.N == b.N && slices.Equal(a.S, b.S)
}

// made is a store of domains that can be.
func made(t *testing.T, l ...api.Dom) *store.Store {
	t.Helper()
	s, e := store.New(l)
	if e != api.OK || s == nil {
		t.Fatal("New", e)
	}
	return s
}

// narrow asks for what becomes of a variable.
func narrow(t *testing.T, s *store.Store, v int, d api.Dom, want int) {
	t.Helper()
	if got, e := s.Narrow(v, d); got != want || e != api.OK {
		t.Errorf("Narrow(%d, %v) = %d, %d; want %d", v, d, got, e, want)
	}
}

// events asks for what happened: variables and why, by turns.
func events(t *testing.T, s *store.Store, want ...int) {
	t.Helper()
	var got []int
	for _, e := range s.Events() {
		got = append(got, e.Var, e.Why)
	}
	if !slices.Equal(got, want) {
		t.Errorf("Events: %v; want %v", got, want)
	}
}

// errs asks for an error.
func errs(t *testing.T, what string, got, want api.Errno) {
	t.Helper()
	if got != want {
		t.Errorf("%s: %d; want %d", what, got, want)
	}
}

// domain asks for a variable's domain.
func domain(t *testing.T, s *store.Store, v int, want api.Dom) {
	t.Helper()
	got, e := s.Get(v)
	errs(t, "Get", e, api.OK)
	alikeDom(t, "Get", got, want)
}
