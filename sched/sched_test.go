package sched_test

import (
	"testing"

	"jigsaw/api"
	"jigsaw/cons"
	"jigsaw/sched"
)

// meanings is constraints of constants, and whether they hold.
func meanings() map[string]bool {
	return map[string]bool{
		"fzn_circuit([])": true, "fzn_circuit([1])": true, "fzn_circuit([0])": false, "fzn_circuit([2])": false, "fzn_circuit([2, 1])": true, "fzn_circuit([1, 2])": false, "fzn_circuit([2, 2])": false, "fzn_circuit([2, 3])": false, "fzn_circuit([0, 1])": false, "fzn_circuit([-1, 1])": false,
		"fzn_circuit([2, 3, 1])": true, "fzn_circuit([3, 1, 2])": true, "fzn_circuit([2, 1, 3])": false, "fzn_circuit([2, 3, 2])": false, "fzn_circuit([2, 1, 1])": false, "fzn_circuit([2, 1, 4, 3])": false, "fzn_circuit([2, 4, 1, 3])": true, "fzn_circuit([2, 3, 4, 5])": false, "fzn_circuit([2, 3, 1, 4])": false, "fzn_circuit([1000000, -1000000])": false,
		"fzn_subcircuit([])": true, "fzn_subcircuit([1])": true, "fzn_subcircuit([2])": false, "fzn_subcircuit([0])": false, "fzn_subcircuit([1, 2])": true, "fzn_subcircuit([2, 1])": true, "fzn_subcircuit([2, 2])": false, "fzn_subcircuit([1, 1])": false, "fzn_subcircuit([1, 3])": false, "fzn_subcircuit([2, 1, 3])": true, "fzn_subcircuit([1, 2, 3])": true, "fzn_subcircuit([2, 3, 1])": true, "fzn_subcircuit([2, 3, 3])": false,
		"fzn_subcircuit([2, 1, 4, 3])": false, "fzn_subcircuit([3, 2, 1, 4])": true, "fzn_subcircuit([3, 4, 1, 2])": false, "fzn_subcircuit([4, 2, 3, 1])": true, "fzn_subcircuit([2, 1, 3, 5, 4])": false, "fzn_subcircuit([2, 4, 3, 5, 1])": true, "fzn_subcircuit([2, 1, 1])": false, "fzn_subcircuit([2, 1, -3])": false,
		"fzn_cumulative([], [], [], 0)": true, "fzn_cumulative([], [], [], -1)": false, "fzn_cumulative([0, 1], [2, 2], [1, 1], 1)": false, "fzn_cumulative([0, 1], [2, 2], [1, 1], 2)": true, "fzn_cumulative([0, 2], [2, 2], [1, 1], 1)": true, "fzn_cumulative([2, 0], [2, 2], [1, 1], 1)": true, "fzn_cumulative([0, 1], [2, 0], [1, 9], 1)": true, "fzn_cumulative([0, 1], [2, 2], [1, 0], 1)": true, "fzn_cumulative([5], [0], [9], 1)": true, "fzn_cumulative([5], [1], [9], 1)": false,
		"fzn_cumulative([5], [-1], [0], 1)": false, "fzn_cumulative([5], [1], [-1], 1)": false, "fzn_cumulative([5], [0], [-1], 1)": false, "fzn_cumulative([5], [0], [0], -1)": false, "fzn_cumulative([5], [0], [0], 0)": true, "fzn_cumulative([5, 5], [1, 1], [2, -2], 1)": false, "fzn_cumulative([-3, -2, -1], [3, 3, 3], [1, 1, 1], 2)": false, "fzn_cumulative([-3, -2, 0], [3, 3, 3], [1, 1, 1], 2)": true, "fzn_cumulative([-3, -2, 0], [3, 3, 3], [1, 2, 1], 2)": false,
		"fzn_cumulative([1000000, 1000000], [1000000, 1000000], [1000000, 1000000], 1000000)": false, "fzn_cumulative([-1000000, 0], [1000000, 1000000], [1000000, 1000000], 1000000)": true, "fzn_cumulative([1000000, 999999], [1000000, 1], [1000000, 1000000], 1000000)": true, "fzn_cumulative([-1000000, -1], [1000000, 1000000], [1, 1], 1)": false,
		"fzn_disjunctive([], [])": true, "fzn_disjunctive([3], [7])": true, "fzn_disjunctive([3], [-1])": false, "fzn_disjunctive([0, 1], [2, 0])": true, "fzn_disjunctive([0, 1], [2, 1])": false, "fzn_disjunctive([0, 2], [2, 1])": true, "fzn_disjunctive([2, 0], [1, 2])": true, "fzn_disjunctive([1, 1], [0, 0])": true, "fzn_disjunctive([1, 1], [0, 1])": true, "fzn_disjunctive([1, 1], [1, 1])": false, "fzn_disjunctive([0, 3, 1], [1, 2, 2])": true, "fzn_disjunctive([0, 2, 1], [1, 2, 2])": false, "fzn_disjunctive([0, 9], [1, -1])": false, "fzn_disjunctive([0, -1000000, 1000000], [1000000, 1000000, 1000000])": true, "fzn_disjunctive([-1, -1000000], [1, 1000000])": false, "fzn_disjunctive([0, 1, 5], [9, 0, 2])": false,
		"fzn_diffn([], [], [], [])": true, "fzn_diffn([0], [0], [5], [5])": true, "fzn_diffn([0], [0], [-1], [5])": false, "fzn_diffn([0], [0], [5], [-1])": false, "fzn_diffn([0], [0], [0], [-1])": false, "fzn_diffn([0, 1], [0, 0], [1, 1], [1, 1])": true, "fzn_diffn([0, 0], [0, 0], [1, 1], [1, 1])": false, "fzn_diffn([0, 1], [0, 1], [2, 2], [2, 2])": false, "fzn_diffn([0, 2], [0, 1], [2, 2], [2, 2])": true, "fzn_diffn([0, 1], [0, 2], [2, 2], [2, 2])": true, "fzn_diffn([1, 0], [2, 0], [2, 2], [2, 2])": true, "fzn_diffn([2, 0], [1, 0], [2, 2], [2, 2])": true,
		"fzn_diffn([0, 1], [0, 1], [3, 0], [3, 1])": true, "fzn_diffn([0, 1], [0, 1], [3, 1], [3, 0])": true, "fzn_diffn([0, 1], [0, 1], [3, 1], [3, 1])": false, "fzn_diffn([0, 0], [0, 0], [0, 0], [0, 0])": true, "fzn_diffn([0, 2, 0], [0, 0, 2], [2, 2, 4], [2, 2, 1])": true, "fzn_diffn([0, 2, 0], [0, 0, 1], [2, 2, 4], [2, 2, 1])": false, "fzn_diffn([-1000000, 0], [1000000, 1000000], [1000000, 1], [1000000, 1])": true, "fzn_diffn([-1000000, -1], [1000000, 1000000], [1000000, 1], [1000000, 1])": false, "fzn_diffn([0, -5], [0, -5], [9, 9], [1, 9])": false,
		"fzn_bin_packing(3, [], [])": true, "fzn_bin_packing(-1, [], [])": true, "fzn_bin_packing(-1, [7], [0])": false, "fzn_bin_packing(0, [7, 7], [0, 0])": true, "fzn_bin_packing(3, [7, 7], [1, 2])": true, "fzn_bin_packing(3, [7, 7], [2, 2])": false, "fzn_bin_packing(3, [7, 8], [2, 2])": true, "fzn_bin_packing(3, [7, 8], [4, 2])": false, "fzn_bin_packing(3, [-7, 0, -7, 0], [2, 1, 1, 2])": true, "fzn_bin_packing(3, [-7, 0, -7, 0], [2, 1, 2, 2])": false, "fzn_bin_packing(1000000000, [1, 1], [1000000000, 1000000000])": false, "fzn_bin_packing(1000000000, [1, 2], [1000000000, 1000000000])": true,
		"fzn_bin_packing_capa([], [], [])": true, "fzn_bin_packing_capa([3], [], [])": true, "fzn_bin_packing_capa([-1], [], [])": false, "fzn_bin_packing_capa([], [1], [0])": false, "fzn_bin_packing_capa([3, 0], [1, 2], [3, 1])": false, "fzn_bin_packing_capa([3, 1], [1, 2], [3, 1])": true, "fzn_bin_packing_capa([3, 1], [2, 1], [3, 1])": false, "fzn_bin_packing_capa([3, 1], [1, 1], [2, 1])": true, "fzn_bin_packing_capa([3, 1], [1, 1], [2, 2])": false, "fzn_bin_packing_capa([3, 1], [0, 1], [0, 2])": false, "fzn_bin_packing_capa([3, 1], [3, 1], [0, 2])": false, "fzn_bin_packing_capa([3, 1], [-1, 1], [0, 2])": false, "fzn_bin_packing_capa([3, -1], [1], [1])": false, "fzn_bin_packing_capa([1000000000], [1, 1], [1000000000, 1])": false,
		"fzn_bin_packing_load([], [], [])": true, "fzn_bin_packing_load([0], [], [])": true, "fzn_bin_packing_load([1], [], [])": false, "fzn_bin_packing_load([-1], [], [])": false, "fzn_bin_packing_load([], [1], [0])": false, "fzn_bin_packing_load([1, 2], [1, 2], [1, 2])": true, "fzn_bin_packing_load([1, 2], [2, 1], [1, 2])": false, "fzn_bin_packing_load([3, 0], [1, 1], [1, 2])": true, "fzn_bin_packing_load([3, 1], [1, 1], [1, 2])": false, "fzn_bin_packing_load([4, 0], [1, 1], [1, 2])": false, "fzn_bin_packing_load([2, 0], [1, 1], [1, 2])": false, "fzn_bin_packing_load([3, 0], [1, 3], [3, 0])": false, "fzn_bin_packing_load([3, 0], [1, 0], [3, 0])": false, "fzn_bin_packing_load([1000000], [1, 1], [1000000000, 0])": false,
		"fzn_knapsack([], [], [], 0, 0)": true, "fzn_knapsack([], [], [], 1, 0)": false, "fzn_knapsack([], [], [], 0, 1)": false, "fzn_knapsack([2, 3], [1, 1], [1, 2], 8, 3)": true, "fzn_knapsack([2, 3], [1, 1], [1, 2], 7, 3)": false, "fzn_knapsack([2, 3], [1, 1], [1, 2], 9, 3)": false, "fzn_knapsack([2, 3], [1, 1], [1, 2], 8, 2)": false, "fzn_knapsack([2, 3], [1, 1], [1, 2], 8, 4)": false, "fzn_knapsack([2, 3], [1, 1], [4, 0], 8, 4)": true, "fzn_knapsack([2, 3], [1, 1], [4, -1], 5, 3)": false, "fzn_knapsack([0], [0], [-1], 0, 0)": false, "fzn_knapsack([0], [0], [7], 0, 0)": true, "fzn_knapsack([1000000000], [1000000000], [1000000], 1000000, 1000000)": false, "fzn_knapsack([1], [1], [1000000], 1000000, 1000000)": true, "fzn_knapsack([2], [1], [3], -6, 3)": false,
	}
}

// P13.1, P13.4, and the chapter's examples: what they mean; Prune decides alike, and the same of variables instead of the constants that may be some.
func TestMeanings(t *testing.T) {
	for text, want := range meanings() {
		c := parsed(t, text)
		open, v, d := opened(c)
		for _, s := range []struct {
			c api.Con
			v []api.Val
			d []api.Dom
		}{{c, nil, nil}, {open, v, d}} {
			if ok, e := sched.Holds(s.c, s.v); ok != want || e != api.OK {
				t.Error("Holds", cons.Text(s.c), s.v, ok, e)
			}
			got, what, e := sched.Prune(s.c, s.d)
			if e != api.OK || want && (what != api.Same || told(got) != told(s.d)) || !want && (what != api.Fail || len(got) > 0) {
				t.Error("Prune", cons.Text(s.c), told(s.d), told(got), what, e)
			}
		}
	}
}

// opened is a constraint with a variable instead of each constant that may be one, with the values and the domains of these.
func opened(c api.Con) (api.Con, []api.Val, []api.Dom) {
	c = cons.Copy(c)
	var v []api.Val
	var d []api.Dom
	open := func(i int) {
		for k, x := range c.Args[i].L {
			c.Args[i].L[k] = cons.Var(len(v))
			v = append(v, x.C)
			d = append(d, api.Dom{R: []api.Range{{Lo: x.C.N, Hi: x.C.N}}})
		}
	}
	for i, part := range partsOf(c.Name) {
		if part == "I" || part == "aI" {
			open(i)
		}
	}
	return c, v, d
}

// P13.1, P13.2: what can not be is refused, as cons.Right does.
func TestRefused(t *testing.T) {
	for text, want := range map[string]api.Errno{
		"int_eq(x0, x1)": api.ErrKind, "fzn_nvalue(x0, [x1])": api.ErrKind, "fzn_inverse([x0], [x1])": api.ErrKind,
		"fzn_circuit(x0)": api.ErrCon, "fzn_circuit([x0, x2])": api.ErrCon, "fzn_circuit([x0, 1000001])": api.ErrCon, "fzn_circuit([x0], [x1])": api.ErrCon, "fzn_subcircuit([{}])": api.ErrCon,
		"fzn_cumulative([x0], [x1], [1, 1], 1)": api.ErrCon, "fzn_cumulative([x0], [x1, 1], [1], 1)": api.ErrCon, "fzn_cumulative([], [x1], [1], 1)": api.ErrCon, "fzn_cumulative([x0], [x1], [1], [1])": api.ErrCon, "fzn_cumulative([x0], [x1], [1])": api.ErrCon, "fzn_disjunctive([x0], [])": api.ErrCon, "fzn_disjunctive([x0], [1, 1])": api.ErrCon,
		"fzn_diffn([x0], [x1], [1], [])": api.ErrCon, "fzn_diffn([x0], [x1], [], [1])": api.ErrCon, "fzn_diffn([x0], [], [1], [1])": api.ErrCon, "fzn_diffn([], [x1], [1], [1])": api.ErrCon,
		"fzn_bin_packing(x0, [x1], [1])": api.ErrCon, "fzn_bin_packing(1, [x1], [x0])": api.ErrCon, "fzn_bin_packing(1, [x1], [-1])": api.ErrCon, "fzn_bin_packing(1, [x1], [1, 1])": api.ErrCon, "fzn_bin_packing([1], [x1], [1])": api.ErrCon,
		"fzn_bin_packing_capa([x0], [x1], [1])": api.ErrCon, "fzn_bin_packing_capa(1, [x1], [1])": api.ErrCon, "fzn_bin_packing_capa([1], [x1], [-1])": api.ErrCon, "fzn_bin_packing_capa([1], [x1], [])": api.ErrCon, "fzn_bin_packing_load([x0], [x1], [-1])": api.ErrCon, "fzn_bin_packing_load([x0], [x1], [1, 2])": api.ErrCon, "fzn_bin_packing_load([1000001], [x1], [1])": api.ErrCon,
		"fzn_knapsack([-1], [1], [x0], x1, x1)": api.ErrCon, "fzn_knapsack([1], [-1], [x0], x1, x1)": api.ErrCon, "fzn_knapsack([1], [1, 1], [x0], x1, x1)": api.ErrCon, "fzn_knapsack([1, 1], [1], [x0], x1, x1)": api.ErrCon, "fzn_knapsack([1], [1], [x0, x0], x1, x1)": api.ErrCon, "fzn_knapsack([x1], [1], [x0], x1, x1)": api.ErrCon, "fzn_knapsack([1], [1], [x0], [x1], x1)": api.ErrCon,
	} {
		refuses(t, text, 2, want)
	}
	long := api.Con{Name: "fzn_circuit", Args: []api.Arg{cons.List(variables(api.MaxArray + 1)...)}}
	if got, what, e := sched.Prune(long, spans(api.MaxArray+1, 0, 1)); got != nil || what != 0 || e != api.ErrSize {
		t.Error("too long", what, e)
	}
}
