package kinds_test

import (
	"fmt"
	"testing"

	"jigsaw/api"
	"jigsaw/kinds"
)

const maxBig = int64(api.Big)

func num(l ...api.Range) api.Dom { return api.Dom{R: l} }

func set(lo, up []int64, least, most int) api.Dom {
	return api.Dom{Set: true, Lo: lo, Up: up, Least: least, Most: most}
}

func list(l ...int64) []int64 { return l }

func TestRightVal(t *testing.T) {
	for _, v := range []api.Val{{}, {N: maxBig}, {N: -maxBig}, {S: list()}, {Set: true}, {Set: true, S: list(-maxBig, maxBig)}} {
		if !kinds.RightVal(v) {
			t.Error("can be:", v)
		}
	}
	for _, v := range []api.Val{{N: maxBig + 1}, {N: -maxBig - 1}, {S: list(1)}, {Set: true, N: 1}, {Set: true, S: list(2, 1)}, {Set: true, S: list(maxBig + 1)}} {
		if kinds.RightVal(v) {
			t.Error("can not be:", v)
		}
	}
}

func TestRight(t *testing.T) {
	for _, d := range []api.Dom{{}, num(api.Range{Lo: -maxBig, Hi: maxBig}), set(nil, nil, 0, 0), set(nil, nil, 1, 0), set(list(1), list(1, 2), 1, 2)} {
		if !kinds.Right(d) {
			t.Error("can be:", d)
		}
	}
	for _, d := range []api.Dom{{Least: 1}, {Most: 1}, {Lo: list(1)}, {Up: list(1)}, num(api.Range{Lo: 2, Hi: 1}), set(nil, nil, 2, 0), {Set: true, R: []api.Range{{}}}} {
		if kinds.Right(d) {
			t.Error("can not be:", d)
		}
	}
}

// Of both kinds: what is in both, how many, the only one.
func TestValues(t *testing.T) {
	one, some, none := num(api.Range{Lo: 3, Hi: 3}), num(api.Range{Lo: 1, Hi: 3}), num()
	oneSet, someSets, noSets := set(list(1), list(1), 1, 1), set(nil, list(1, 2), 1, 2), set(nil, nil, 1, 0)
	for _, c := range []struct {
		a, b api.Dom
		size int64
		only string
	}{{some, one, 1, "{false 3 []} true"}, {some, some, 3, "{false 0 []} false"}, {one, none, 0, "{false 0 []} false"}, {someSets, oneSet, 1, "{true 0 [1]} true"}, {someSets, someSets, 3, "{false 0 []} false"}, {oneSet, noSets, 0, "{false 0 []} false"}} {
		got := kinds.Both(c.a, c.b)
		v, ok := kinds.Only(got)
		if kinds.Size(got) != c.size || kinds.Empty(got) != (c.size == 0) || fmt.Sprint(v, ok) != c.only {
			t.Error("Both", c.a, c.b, got, v, ok)
		}
		if !kinds.Same(got, c.b) || kinds.Same(c.a, c.b) != (c.size == kinds.Size(c.a)) {
			t.Error("Same", c.a, c.b)
		}
	}
}

func TestHas(t *testing.T) {
	numbers, some := num(api.Range{Lo: 1, Hi: 3}), set(list(1), list(1, 2), 1, 2)
	for n := range int64(5) {
		if kinds.Has(numbers, api.Val{N: n}) != (n >= 1 && n <= 3) {
			t.Error("Has", n)
		}
	}
	if !kinds.Has(some, api.Val{Set: true, S: list(1, 2)}) || kinds.Has(some, api.Val{Set: true, S: list(2)}) || kinds.Has(some, api.Val{Set: true}) {
		t.Error("Has of sets")
	}
}

// A copy is as it was, and goes its own way.
func TestCopy(t *testing.T) {
	odd := api.Dom{Set: true, R: []api.Range{{Lo: 2, Hi: 1}}, Lo: list(9), Up: list(3, 2), Least: -1, Most: 7}
	c := kinds.Copy(odd)
	if fmt.Sprint(c) != fmt.Sprint(odd) {
		t.Error("Copy", c)
	}
	c.R[0].Lo, c.Lo[0], c.Up[0] = 5, 5, 5
	if odd.R[0].Lo != 2 || odd.Lo[0] != 9 || odd.Up[0] != 3 {
		t.Error("Copy shares memory", odd)
	}
}
