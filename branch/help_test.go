package branch_test

import (
	"fmt"
	"math"
	"math/rand/v2"
	"slices"
	"testing"

	"jigsaw/api"
	"jigsaw/branch"
	"jigsaw/dom"
	"jigsaw/kinds"
	"jigsaw/sets"
)

const (
	least    = math.MinInt64
	greatest = math.MaxInt64
	maxBig   = int64(api.Big)
)

func r(lo, hi int64) api.Range { return api.Range{Lo: lo, Hi: hi} }

func num(l ...api.Range) api.Dom { return api.Dom{R: l} }

func set(lo, up []int64, least, most int) api.Dom {
	return api.Dom{Set: true, Lo: lo, Up: up, Least: least, Most: most}
}

func noSet() api.Dom { return set(nil, nil, 1, 0) }

func list(l ...int64) []int64 { return l }

func dec(v, op int, n int64) branch.Dec { return branch.Dec{Var: v, Op: op, N: n} }

// comb is n ranges of three values each, every fourth number between them missing.
func comb(n int) api.Dom {
	var out api.Dom
	for i := range int64(n) {
		out.R = append(out.R, r(4*i, 4*i+2))
	}
	return out
}

// wrongDoms are domains that can not be.
func wrongDoms() []api.Dom {
	return []api.Dom{
		num(r(2, 1)), num(r(1, 3), r(4, 6)), num(r(5, 6), r(1, 2)), num(r(-maxBig-1, 0)), num(r(0, maxBig+1)), num(r(least, greatest)),
		comb(api.MaxRanges + 1),
		{R: []api.Range{r(1, 2)}, Lo: list(1)}, {R: []api.Range{r(1, 2)}, Most: 1}, {Least: 1},
		{Set: true, R: []api.Range{r(1, 2)}}, set(list(1), list(2), 1, 1), set(nil, list(2, 1), 0, 1), set(nil, list(1, 2), -1, 2), set(nil, list(1, 2), 0, 3), set(nil, list(1, 2), 2, 1),
		set(nil, list(maxBig+1), 0, 1), set(nil, list(1, 2), math.MinInt, math.MaxInt),
	}
}

// values is all values of a domain that can be; of another one none.
func values(d api.Dom) []api.Val {
	var out []api.Val
	switch {
	case !kinds.Right(d):
	case d.Set:
		for l := range sets.Each(d) {
			out = append(out, api.Val{Set: true, S: l})
		}
	default:
		for n := range dom.Each(d.R) {
			out = append(out, api.Val{N: n})
		}
	}
	return out
}

func told(v []api.Val) string {
	out := ""
	for _, x := range v {
		if x.Set {
			out += sets.Text(x.S) + " "
		} else {
			out += fmt.Sprint(x.N, " ")
		}
	}
	return out
}

func sameDom(a, b api.Dom) bool {
	return a.Set == b.Set && slices.Equal(a.R, b.R) && slices.Equal(a.Lo, b.Lo) && slices.Equal(a.Up, b.Up) && a.Least == b.Least && a.Most == b.Most
}

func copyDoms(d []api.Dom) []api.Dom {
	out := make([]api.Dom, len(d))
	for i, x := range d {
		out[i] = kinds.Copy(x)
	}
	return out
}

// drawnDom is a domain drawn by chance; now and then it is empty, or can not be, or (of a set) is not tight.
func drawnDom(rnd *rand.Rand) api.Dom {
	pick := func(l []int64) []int64 {
		var out []int64
		for _, v := range l {
			if rnd.IntN(2) == 0 {
				out = append(out, v)
			}
		}
		return out
	}
	switch rnd.IntN(9) {
	case 0:
		wrong := wrongDoms()
		return wrong[rnd.IntN(len(wrong))]
	case 1:
		return []api.Dom{num(), noSet(), num(r(5, 5)), set(list(1), list(1), 1, 1), set(nil, list(1, 2), 2, 2), set(list(1), list(1, 2), 1, 1)}[rnd.IntN(6)]
	case 2, 3, 4:
		up := pick(list(-9, -2, 0, 3, 4))
		lo := pick(up)
		from := len(lo) + rnd.IntN(len(up)-len(lo)+1)
		return set(lo, up, from, from+rnd.IntN(len(up)-from+1))
	}
	l, _ := dom.Of(pick(list(-7, -4, -3, -1, 0, 1, 2, 6))...)
	return num(l...)
}

func drawnDoms(rnd *rand.Rand) []api.Dom {
	var out []api.Dom
	for range rnd.IntN(7) {
		out = append(out, drawnDom(rnd))
	}
	return out
}

// drawnPhases is phases of variables that there are or not, by selectors that are some or none.
func drawnPhases(rnd *rand.Rand) []api.Phase {
	var out []api.Phase
	for range rnd.IntN(4) {
		p := api.Phase{Select: rnd.IntN(8) - 1, Value: rnd.IntN(8) - 1}
		for range rnd.IntN(6) {
			p.Vars = append(p.Vars, rnd.IntN(9)-1)
		}
		out = append(out, p)
	}
	return out
}

func alike[T comparable](t *testing.T, what string, got, want T) {
	t.Helper()
	if got != want {
		t.Errorf("%s: %v; want %v", what, got, want)
	}
}
