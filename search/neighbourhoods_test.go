package search_test

import (
	"fmt"
	"strings"
	"testing"

	"jigsaw/api"
)

// knapsack is a choice of n things, of which the most worth is asked: the search by itself begins with the worst ones.
func knapsack(t testing.TB, n int) api.Problem {
	var weights, worths, vars []string
	for i := range n {
		weights = append(weights, fmt.Sprint(3+i*7%11))
		worths = append(worths, fmt.Sprint(2+i*5%13))
		vars = append(vars, fmt.Sprint("x", i))
	}
	all := func(l []string) string { return "[" + strings.Join(l, ", ") + "]" }
	d := append(many(n, num(r(0, 1))), num(r(0, 1000)))
	p := problem(t, d, fmt.Sprintf("int_lin_le(%s, %s, %d)", all(weights), all(vars), 4*n),
		fmt.Sprintf("int_lin_eq(%s, %s, 0)", all(append(worths, "-1")), all(append(vars, fmt.Sprint("x", n)))))
	p.Goal, p.Of = api.Maximize, n
	return p
}

// P20.5: neighbourhoods change nothing of the best one.
func TestNeighbourhoodsAndTheBest(t *testing.T) {
	p := knapsack(t, 10)
	best := int64(0)
	for _, lns := range []int{0, 1, 30, 50, 99, 100} {
		for _, draws := range [][]int{nil, {4, 8, 1, 90, 17, -3}} {
			for _, how := range []int{api.RNone, api.RLuby, api.RGeometric} {
				o := api.Options{Nodes: 100000, Restart: how, Scale: 7, Lns: lns, Draws: draws, Nogoods: lns == 30}
				res := solved(t, p, o)
				got := res.Sols[len(res.Sols)-1][p.Of].N
				if best == 0 {
					best = got
				}
				if !res.Complete || got != best {
					t.Error("Solve", o, res.Complete, got, best)
				}
			}
		}
	}
}

// With few nodes neighbourhoods find better ones.
func TestNeighbourhoodsHelp(t *testing.T) {
	p := knapsack(t, 40)
	o := api.Options{Nodes: 3000}
	alone := solved(t, p, o)
	o.Lns = 75
	with := solved(t, p, o)
	a, b := alone.Sols[len(alone.Sols)-1][p.Of].N, with.Sols[len(with.Sols)-1][p.Of].N
	if alone.Complete || b <= a {
		t.Error("neighbourhoods do not help", a, b)
	}
}
