package sched_test

import (
	"testing"

	"jigsaw/api"
	"jigsaw/cons"
	"jigsaw/sched"
)

// P13.3, P13.5: what goes.
func TestPrune(t *testing.T) {
	for _, s := range [][3]string{
		{"fzn_circuit([])", "1..2", "same"}, {"fzn_circuit([x0])", "0..9", "1"}, {"fzn_circuit([x0])", "2..9", "fail"}, {"fzn_circuit([x0, x1])", "0..9 0..9", "2 1"}, {"fzn_circuit([x0, x1, x2])", "0..9 0..9 0..9", "2..3 1,3 1..2"}, {"fzn_circuit([x0, x1, x2])", "2 0..9 0..9", "2 3 1"}, {"fzn_circuit([x0, 3, x1])", "0..9 0..9", "2 1"},
		{"fzn_circuit([x0, x1, x2, x3])", "2 1..4 4 1..4", "2 3 4 1"}, {"fzn_circuit([x0, x1, x2])", "2 1 1..3", "fail"}, {"fzn_circuit([x0, x0])", "1..2", "fail"}, {"fzn_circuit([x0, x1, x0])", "1..3 1..3", "fail"}, {"fzn_circuit([x0, x1, x2])", "1..2 1..2 3", "fail"}, {"fzn_circuit([x0, x1])", "-1000000..1000000 -1000000..1000000", "2 1"}, {"fzn_circuit([x0, x1])", "5..9 0..9", "fail"},
		{"fzn_subcircuit([])", "1..2", "same"}, {"fzn_subcircuit([x0])", "0..9", "1"}, {"fzn_subcircuit([x0, x1])", "0..9 0..9", "1..2 1..2"}, {"fzn_subcircuit([x0, x1, x2])", "2 1 0..9", "2 1 3"}, {"fzn_subcircuit([x0, x1, x2, x3])", "2 1..4 4 1..4", "2 3 4 1"}, {"fzn_subcircuit([x0, x1, x2])", "2 1,3 1..3", "2 1,3 1,3"}, {"fzn_subcircuit([x0, x1, x2])", "2 1,3 1..2", "2 3 1"},
		{"fzn_subcircuit([x0, x0])", "1..2", "fail"}, {"fzn_subcircuit([x0, x1, x2, x3])", "2 1 4 3..4", "fail"}, {"fzn_subcircuit([x0, x1, x2, x3])", "2 1 4 1..3", "fail"}, {"fzn_subcircuit([x0, x1, x2, x3])", "2 1 1..4 1..4", "2 1 3 4"}, {"fzn_subcircuit([x0, x1])", "3..4 1..2", "fail"}, {"fzn_subcircuit([x0, x1, x2, x3, x4])", "2 1 1..5 1..5 1..5", "2 1 3 4 5"}, {"fzn_subcircuit([x0, x1, x2, x3])", "2 1,3..4 1,4 1,3..4", "2 3..4 1,4 1,3..4"}, {"fzn_subcircuit([x0, x1, x2, x3])", "2 1,3..4 1,3..4 1,3..4", "same"}, {"fzn_subcircuit([3, x0, x1, x2])", "1..4 1..4 1..4", "1..2,4 1..2,4 1..2,4"},
		{"fzn_cumulative([x0, x1], [3, 3], [1, 1], 1)", "0..1 0..1", "fail"}, {"fzn_cumulative([x0, x1], [3, 3], [1, 1], 2)", "0..1 0..1", "same"}, {"fzn_cumulative([x0, 4], [3, 3], [1, 1], 1)", "0..9", "0..1,7..9"}, {"fzn_cumulative([x0, x1], [3, 5], [1, 1], 1)", "0..9 3..5", "0..2,8..9 3..5"}, {"fzn_cumulative([x0, x1], [3, 5], [1, 0], 1)", "0..9 3..5", "same"}, {"fzn_cumulative([x0, x1], [0, 5], [1, 1], 1)", "0..9 3..5", "same"},
		{"fzn_cumulative([x0, x1], [3, 5], [2, 3], x2)", "0..9 3..5 -5..9", "0..9 3..5 3..9"}, {"fzn_cumulative([1, 2], [3, 5], [x0, x1], 4)", "-3..9 2..9", "0..2 2..4"}, {"fzn_cumulative([x0], [x1], [5], 4)", "0..9 0..3", "0..9 0"}, {"fzn_cumulative([x0], [x1], [5], 4)", "0..9 1..3", "fail"}, {"fzn_cumulative([x0, x1], [-1, 1], [1, 1], 9)", "0..9 0..9", "fail"}, {"fzn_cumulative([x0, x1], [1, 1], [-1, 1], 9)", "0..9 0..9", "fail"}, {"fzn_cumulative([x0, x1], [1, 1], [1, 1], -1)", "0..9 0..9", "fail"}, {"fzn_cumulative([x0, x1], [x2, 1], [x3, 1], x4)", "0..9 0..9 -9..9 -9..9 -9..9", "0..9 0..9 0..9 0..9 1..9"},
		{"fzn_cumulative([1, 2, x0], [3, 3, 1], [2, 3, 1], x1)", "0..9 0..9", "0..9 5..9"}, {"fzn_cumulative([x0, x1, x2], [3, 3, 3], [1, 1, 1], 1)", "0..3 0..3 0..3", "fail"}, {"fzn_cumulative([x0, x1, x2], [3, 3, 3], [1, 1, 1], 1)", "0..6 0..6 0..6", "same"}, {"fzn_cumulative([], [], [], x0)", "-5..5", "0..5"}, {"fzn_cumulative([x0, x1, x2], [4, 4, 2], [2, 1, 2], 3)", "0..2 0..1 0..9", "0..2 0..1 0,4..9"}, {"fzn_cumulative([x0, x0], [2, 2], [1, 1], 1)", "0..9", "fail"}, {"fzn_cumulative([x0, x1], [1000000, 1000000], [1, 1], 1)", "-1000000..1000000 0", "-1000000,1000000 0"},
		{"fzn_disjunctive([x0, x1], [3, 3])", "0..3 0..3", "0,3 0,3"}, {"fzn_disjunctive([x0, x1], [3, 3])", "0..2 0..2", "fail"}, {"fzn_disjunctive([x0, x1], [3, 0])", "0..2 0..2", "same"}, {"fzn_disjunctive([x0, x1], [3, x2])", "0..2 0..2 -2..0", "0..2 0..2 0"}, {"fzn_disjunctive([x0, x1], [3, -1])", "0..2 0..2", "fail"}, {"fzn_disjunctive([x0, x1], [3, 2])", "0..4 3..9", "same"}, {"fzn_disjunctive([x0, x1], [3, 2])", "1..4 0..3", "2..4 0..2"}, {"fzn_disjunctive([x0, 5], [3, 2])", "-1000000..1000000", "-1000000..2,7..1000000"}, {"fzn_disjunctive([x0, x1, x2], [3, 3, 3])", "0..3 0..3 0..3", "fail"}, {"fzn_disjunctive([x0, x1, x2, x3], [1, 3, 3, 3])", "-5..0 0..3 0..3 0..3", "fail"}, {"fzn_disjunctive([x0, x1, x2, x3], [1, 3, 3, 3])", "-5..0 0..6 0..6 0..6", "same"}, {"fzn_disjunctive([x0], [3])", "0..3", "same"},
		{"fzn_diffn([x0, 1], [x1, 0], [2, 3], [2, 3])", "0..9 0..1", "4..9 0..1"}, {"fzn_diffn([x0, 1], [x1, 0], [2, 3], [2, 3])", "0..9 0..9", "same"}, {"fzn_diffn([x0, 1], [x1, 0], [2, 3], [0, 3])", "0..9 0..1", "same"}, {"fzn_diffn([x0, 1], [x1, 0], [2, 3], [-1, 3])", "0..9 0..1", "fail"}, {"fzn_diffn([x0, 1], [x1, 0], [2, x2], [2, x3])", "0..9 0..1 -3..3 -3..3", "0..9 0..1 0..3 0..3"}, {"fzn_diffn([x0, 1], [x1, 0], [2, 3], [2, 3])", "1..2 0..9", "1..2 3..9"}, {"fzn_diffn([x0, 1], [x1, 0], [2, 3], [2, 3])", "1..2 0..2", "fail"}, {"fzn_diffn([x0, x1], [x2, x3], [2, 2], [2, 2])", "0..1 0..1 0..2 0..2", "0..1 0..1 0,2 0,2"}, {"fzn_diffn([x0], [x1], [2], [2])", "0..1 0..1", "same"},
		{"fzn_bin_packing(3, [x0, 7, x1], [2, 2, 1])", "5..9 7..8", "5..6,8..9 7..8"}, {"fzn_bin_packing(3, [x0, x1], [4, 1])", "1..9 1..9", "fail"}, {"fzn_bin_packing(3, [x0, x0], [2, 2])", "1..9", "fail"}, {"fzn_bin_packing(4, [x0, x0, x1, 5], [2, 2, 1, 0])", "1..9 1", "2..9 1"}, {"fzn_bin_packing(-1, [x0, x1], [0, 0])", "1..9 1..9", "fail"}, {"fzn_bin_packing(-1, [], [])", "1..9", "same"}, {"fzn_bin_packing(3, [x0, x1], [3, 0])", "1..9 -5", "same"}, {"fzn_bin_packing(3, [x0, -5, 6, x1], [2, 2, 1, 3])", "-1000000..1000000 -6..-5", "-1000000..-6,-4..1000000 -6"},
		{"fzn_bin_packing_capa([3, 1, 2], [x0, x1, 1], [2, 1, 2])", "0..9 0..9", "3 1..2"}, {"fzn_bin_packing_capa([2, 2], [x0, x1, x2], [2, 2, 2])", "0..9 0..9 0..9", "fail"}, {"fzn_bin_packing_capa([2, 2], [x0, x1], [0, 0])", "0..9 2..9", "1..2 2"}, {"fzn_bin_packing_capa([], [x0, x1], [0, 0])", "0..9 2..9", "fail"}, {"fzn_bin_packing_capa([2, -1], [x0, x1], [0, 0])", "0..9 0..9", "fail"}, {"fzn_bin_packing_capa([2, 2], [x0, x1], [0, 0])", "3..9 0..9", "fail"}, {"fzn_bin_packing_capa([1, 4], [x0, x0, x1], [1, 1, 2])", "0..9 0..9", "2 2"}, {"fzn_bin_packing_capa([9], [], [])", "3..9", "same"},
		{"fzn_bin_packing_load([x0, x1], [x2, x3], [2, 3])", "-9..9 4..9 1..2 1..2", "0..1 4..5 2 2"}, {"fzn_bin_packing_load([x0, x1], [1, 2, 1], [2, 3, 4])", "-9..9 -9..9", "6 3"}, {"fzn_bin_packing_load([x0, 3], [1, 2, 1], [2, 2, 4])", "-9..9", "fail"}, {"fzn_bin_packing_load([x0, x1], [], [])", "-9..9 -9..9", "0 0"}, {"fzn_bin_packing_load([x0, x1], [x2], [5])", "-9..9 1..9 0..5", "0..4 1..5 2"}, {"fzn_bin_packing_load([], [x0], [5])", "-9..9", "fail"}, {"fzn_bin_packing_load([x0, x1], [x2, x3], [2, 3])", "0..4 0..4 0..9 0..9", "1..4 1..4 1..2 1..2"}, {"fzn_bin_packing_load([x0, x1, x2], [x3, x4, x5], [2, 3, 4])", "4..9 0..9 0..9 2..3 2..3 1..3", "4 0..5 0..5 2..3 2..3 1"}, {"fzn_bin_packing_load([x0, x0], [x1, x2], [3, 3])", "0..9 1..2 1..2", "0..6 1..2 1..2"},
		{"fzn_knapsack([2, 3], [1, 1], [x0, x1], x2, x3)", "-5..9 -5..9 0..6 3..9", "1..3 0..2 0..6 3..5"}, {"fzn_knapsack([2, 3], [1, 1], [x0, x1], x2, x3)", "-5..-1 -5..9 0..6 3..9", "fail"}, {"fzn_knapsack([2, 3], [1, 1], [x0, x1], x2, x3)", "1..9 1..9 0..4 0..9", "fail"}, {"fzn_knapsack([0, 0], [0, 0], [x0, x1], x2, x3)", "-5..9 -5..9 -9..9 -9..9", "0..9 0..9 0 0"}, {"fzn_knapsack([1, 1], [0, 0], [x0, x1], x2, 0)", "5..40 5..40 0,50..60", "10..40 10..40 50..60"}, {"fzn_knapsack([0, 2], [0, 1], [x0, x1], x2, x3)", "0..9 0..9 0..6 0..9", "0..9 0..3 0..6 0..3"}, {"fzn_knapsack([], [], [], x0, x1)", "-5..9 -9..9", "0 0"}, {"fzn_knapsack([2], [5], [x0], x1, x2)", "0..9 0..9 0..9", "0..1 0..8 0..5"}, {"fzn_knapsack([1000000000], [1], [x0], x1, x2)", "0..9 0..9 0..9", "0 0 0"}, {"fzn_knapsack([1, 1], [1, 0], [x0, x0], 8, x1)", "-9..9 0..9", "4 4"},
		{"fzn_circuit([x0, x1])", "{} 1..2", "fail"}, {"fzn_circuit([x1])", "{} 1..2", "{} 1"}, {"fzn_disjunctive([x1, 4], [x2, 5])", "1..9 2 0..3", "1..9 2 0..2"},
	} {
		prunes(t, s[0], s[1], s[2])
	}
}

// P13.2: arrays of MaxArray terms, over the widest domains and over those of so many values.
func TestLongArrays(t *testing.T) {
	const n = api.MaxArray
	x := cons.List(variables(n)...)
	numbers := func(so func(i int64) int64) api.Arg {
		var l []api.Term
		for i := range int64(n) {
			l = append(l, cons.Int(so(i)))
		}
		return cons.List(l...)
	}
	one := func(k int64) api.Arg { return cons.One(cons.Int(k)) }
	ones, up := numbers(func(int64) int64 { return 1 }), numbers(func(i int64) int64 { return i })
	most := numbers(func(int64) int64 { return api.Coef })
	wide, narrow := spans(n, -maxBig, maxBig), spans(n, 1, n)
	for _, s := range []struct {
		name string
		args []api.Arg
		d    []api.Dom
		what int
	}{
		{"fzn_circuit", []api.Arg{x}, wide, api.Less},
		{"fzn_circuit", []api.Arg{x}, narrow, api.Less},
		{"fzn_subcircuit", []api.Arg{x}, wide, api.Less},
		{"fzn_subcircuit", []api.Arg{x}, narrow, api.Same},
		{"fzn_cumulative", []api.Arg{x, ones, ones, one(1)}, wide, api.Same},
		{"fzn_cumulative", []api.Arg{x, numbers(func(int64) int64 { return n }), ones, one(n - 1)}, narrow, api.Fail},
		{"fzn_cumulative", []api.Arg{x, x, x, one(n)}, wide, api.Less},
		{"fzn_disjunctive", []api.Arg{x, ones}, narrow, api.Same},
		{"fzn_disjunctive", []api.Arg{up, x}, wide, api.Less},
		{"fzn_diffn", []api.Arg{x, x, ones, ones}, narrow, api.Same},
		{"fzn_diffn", []api.Arg{up, ones, ones, x}, wide, api.Less},
		{"fzn_bin_packing", []api.Arg{one(n), x, ones}, wide, api.Same},
		{"fzn_bin_packing", []api.Arg{one(0), x, ones}, wide, api.Fail},
		{"fzn_bin_packing_capa", []api.Arg{ones, x, ones}, wide, api.Less},
		{"fzn_bin_packing_capa", []api.Arg{most, x, most}, narrow, api.Same},
		{"fzn_bin_packing_load", []api.Arg{x, ones, up}, wide, api.Less},
		{"fzn_bin_packing_load", []api.Arg{x, x, ones}, wide, api.Fail}, // each bin has one then, and that is the first one,
		{"fzn_bin_packing_load", []api.Arg{ones, x, most}, narrow, api.Fail},
		{"fzn_knapsack", []api.Arg{most, most, x, one(api.Big), one(api.Big)}, wide, api.Fail},
		{"fzn_knapsack", []api.Arg{most, most, x, one(0), one(0)}, wide, api.Less},
		{"fzn_knapsack", []api.Arg{ones, ones, x, one(n), one(n)}, narrow, api.Less},
		{"fzn_knapsack", []api.Arg{ones, ones, x, one(n - 1), one(n)}, narrow, api.Fail},
	} {
		if got, what, e := sched.Prune(api.Con{Name: s.name, Args: s.args}, s.d); e != api.OK || what != s.what || (what == api.Fail) != (len(got) == 0) {
			t.Error(s.name, what, e)
		}
	}
}
