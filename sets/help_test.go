package sets_test

import (
	"math"
	"slices"
	"testing"

	"jigsaw/api"
	"jigsaw/sets"
)

const (
	least    = math.MinInt64
	greatest = math.MaxInt64
	maxBig   = int64(api.Big)
)

func list(l ...int64) []int64 { return l }

// run is n values, one behind the other, from first on.
func run(n int, first int64) []int64 {
	out := make([]int64, n)
	for i := range out {
		out[i] = first + int64(i)
	}
	return out
}

// wrongs are lists that are no sets, each in another way.
func wrongs() [][]int64 {
	return [][]int64{
		list(2, 1),
		list(1, 1),
		list(1, 2, 2),
		list(1, 3, 2),
		list(-maxBig-1, 0),
		list(0, maxBig+1),
		list(least),
		list(greatest),
		list(least, greatest),
		run(api.MaxElems+1, 0),
	}
}

// parts is all sets of elements of l.
func parts(l []int64) [][]int64 {
	var out [][]int64
	for mask := range 1 << len(l) {
		var part []int64
		for i, v := range l {
			if mask>>i&1 == 1 {
				part = append(part, v)
			}
		}
		out = append(out, part)
	}
	return out
}

// those is the values of l for which keep holds.
func those(l []int64, keep func(v int64) bool) []int64 {
	var out []int64
	for _, v := range l {
		if keep(v) {
			out = append(out, v)
		}
	}
	return out
}

func alike(t *testing.T, what string, got, want []int64) {
	t.Helper()
	if !slices.Equal(got, want) {
		t.Errorf("%s: %v; want %v", what, got, want)
	}
}

// none is the empty domain of a set.
func none() api.Dom { return api.Dom{Set: true, Least: 1} }

func dom(lo, up []int64, least, most int) api.Dom {
	return api.Dom{Set: true, Lo: lo, Up: up, Least: least, Most: most}
}

// wrongDoms are domains that can not be, each in another way.
func wrongDoms() []api.Dom {
	out := []api.Dom{
		{},
		{Lo: list(1), Up: list(1), Least: 1, Most: 1},
		{R: []api.Range{{Lo: 1, Hi: 2}}},
		{Set: true, R: []api.Range{{Lo: 1, Hi: 2}}, Up: list(1), Most: 1},
		{Set: true, R: []api.Range{{Lo: 1, Hi: 2}}, Least: 1},
		dom(list(1), list(2, 3), 1, 2),
		dom(list(1), nil, 1, 1),
		dom(nil, list(1, 2), -1, 2),
		dom(nil, list(1, 2), 0, 3),
		dom(nil, list(1, 2), 2, 1),
		dom(nil, list(1, 2), 1, 0),
		dom(nil, nil, 2, 0),
		dom(nil, nil, 1, -1),
		dom(nil, nil, 1, 1),
		dom(list(1), list(1), 1, 0),
		dom(list(1), list(1, 2), 0, 2),
		dom(list(1), list(1, 2), math.MinInt, math.MaxInt),
		dom(nil, list(1, 2), 0, math.MaxInt),
		dom(nil, list(1, 2), math.MaxInt, math.MaxInt),
		dom(nil, nil, math.MaxInt, math.MinInt),
	}
	for _, w := range wrongs() {
		out = append(out, dom(nil, w, 0, 1), dom(w, w, len(w), len(w)), dom(w, run(5, 0), 2, 5))
	}
	return out
}

// alikeDom holds domains against each other, field by field.
func alikeDom(t *testing.T, what string, got, want api.Dom) {
	t.Helper()
	if got.Set != want.Set || len(got.R) != 0 || !slices.Equal(got.Lo, want.Lo) || !slices.Equal(got.Up, want.Up) || got.Least != want.Least || got.Most != want.Most {
		t.Errorf("%s: %v; want %v", what, got, want)
	}
}

// smallest is the tight domain of some sets, found by looking at each of them.
func smallest(all [][]int64) api.Dom {
	if len(all) == 0 {
		return none()
	}
	d := dom(all[0], nil, len(all[0]), len(all[0]))
	for _, l := range all {
		d.Lo = those(d.Lo, func(v int64) bool { return slices.Contains(l, v) })
		d.Up = append(slices.Clone(d.Up), l...)
		d.Least, d.Most = min(d.Least, len(l)), max(d.Most, len(l))
	}
	slices.Sort(d.Up)
	d.Up = slices.Compact(d.Up)
	return d
}

// has: is l between lo and up, with least to most elements?
func has(l, lo, up []int64, least, most int) bool {
	for _, v := range lo {
		if !slices.Contains(l, v) {
			return false
		}
	}
	for _, v := range l {
		if !slices.Contains(up, v) {
			return false
		}
	}
	return least <= len(l) && len(l) <= most
}

func collect(d api.Dom) [][]int64 { return slices.Collect(sets.Each(d)) }
