package family_test

import (
	"testing"

	"jigsaw/api"
	"jigsaw/dom"
)

// leftOver is constraints of each family over x0, which is left, and x1, which is 1.
func leftOver() map[string][]string {
	return map[string][]string{
		"linear": {
			"int_eq(x0, 77)", "int_ne(x0, 77)", "int_ne(x0, x1)", "int_lt(x0, x1)", "int_eq_reif(x0, x1, 0)", "int_le_reif(x0, x1, 0)", "int_le_imp(x0, x1, 1)", "int_lin_eq([3, 1], [x0, x1], 91)", "int_lin_eq([3, 1], [x0, x1], 92)",
			"int_lin_ne([3, 1], [x0, x1], 91)", "int_lin_le([-3, 1], [x0, x1], 91)", "int_lin_le([3, -3], [x0, x0], 0)", "int_lin_eq_reif([3, 1], [x0, x1], 91, 0)", "int_lin_ne_imp([3], [x0], 90, 1)", "bool_lin_eq([3, 74], [1, 1], x0)",
		},
		"arith": {
			"int_plus(x0, x1, 77)", "int_times(x0, 3, x0)", "int_times(x0, 2, 80)", "int_times(x0, x0, 81)", "int_div(x0, 7, 3)", "int_div(500, x0, 7)", "int_mod(x0, 7, 3)", "int_mod(500, x0, 3)", "int_mod(x0, x0, 0)", "int_min(x0, 30, 30)", "int_min(x0, 30, 31)", "int_max(x0, 30, 30)", "int_abs(x0, 5)", "int_abs(x0, x0)",
			"int_pow(x0, 3, -8)", "int_pow(x0, -1, 0)", "int_pow(-1, x0, 1)", "array_int_element(x0, [1, 5, 1], x1)", "array_int_element(2, [1, 5, 1], x0)", "array_int_element(x0, [3, 2, 3], x0)", "array_var_int_element(x0, [1, x1, x0], 1)", "array_var_int_element(1, [x0, x1], 44)", "array_var_int_element(2, [x0, x1], 1)", "array_var_bool_element(1, [1, x0], x1)",
		},
		"logic": {
			"bool2int(x0, x1)", "bool2int(x1, x0)", "bool2int(0, x0)", "bool2int(x0, x0)", "bool2int(x0, 7)", "bool_eq(x0, x1)", "bool_ne(x0, x0)", "bool_lt(x0, x1)", "bool_lt(x1, x0)", "bool_le(x1, x0)", "bool_not(x0, x1)", "bool_eq_reif(x0, 0, x1)", "bool_le_reif(x0, 0, x0)", "bool_lt_reif(x0, x1, x0)",
			"bool_and(x0, x1, x0)", "bool_or(x0, x1, 0)", "bool_xor(x0, x1, x0)", "bool_clause([x0], [x1])", "bool_clause([0], [x0, x1])", "bool_clause([x0], [x0])", "bool_clause_reif([x0], [x1], 0)", "bool_clause_reif([], [x0], x0)", "array_bool_and([x0, x1], x1)", "array_bool_and([], x0)", "array_bool_or([x0, 0], x1)", "array_bool_or([], x0)", "array_bool_xor([x0, x1])", "array_bool_xor([x0, x0, x0])", "array_bool_xor([x0, x0])",
		},
		"setcon": {
			"set_in(x0, {-9,5,990,991})", "set_in(x0, {})", "set_in(x0, {992})", "set_in_reif(x0, {-9,5,990}, x1)", "set_in_reif(x0, {-9,5,990}, 0)", "set_in_reif(x0, {0,1,2}, x0)", "set_in_reif(x0, {0}, x0)", "set_in_imp(x0, {1,3}, x1)", "set_in_imp(x0, {1,3}, 0)", "set_in_imp(x0, {0}, x0)", "set_in_imp(x1, {3}, x0)",
			"set_card({1,3,5}, x0)", "set_card({}, x0)", "set_eq_reif({1}, {1}, x0)", "set_ne_reif({1}, {1}, x0)", "set_subset_reif({1}, {1,2}, x0)", "set_superset_reif({1}, {1,2}, x0)", "set_le_reif({1}, {1,2}, x0)", "set_lt_reif({1,2}, {1}, x0)",
		},
		"count": {
			"fzn_all_different_int([x0, x1, 7])", "fzn_all_different_int([x0, x0])", "fzn_all_different_int([x0, 3, x1, 3])", "fzn_all_different_int([x0])", "fzn_all_equal_int([x0, x1])", "fzn_all_equal_int([x0, 3, x1])", "fzn_all_equal_int([x0, x0])",
			"fzn_global_cardinality([x0, x1, 5], [1, 5], [2, 1])", "fzn_global_cardinality([x0, x1, 5], [1, 5], [1, 1])", "fzn_global_cardinality([x1, 1, 5], [1], [x0])", "fzn_global_cardinality([x0, x1], [0, 1], [x0, 1])", "fzn_global_cardinality([x0, x1], [1, 2000000], [1, 0])", "fzn_global_cardinality([x0, x1], [1, 2000000], [1, 1])", "fzn_global_cardinality([x1, 4], [1000000000, -5], [x0, x0])",
			"fzn_global_cardinality_closed([x0, x1, 5], [1, 5, 9], [1, 1, 1])", "fzn_global_cardinality_closed([x0, x1], [1, 2], [x0, 1])", "fzn_global_cardinality_closed([x0], [], [])", "fzn_global_cardinality_closed([x1, 3], [1, 3], [1, x0])", "fzn_global_cardinality_closed([x0, x0], [1, 4], [0, 2])",
			"fzn_count_eq([x0, x1, 1], x1, 2)", "fzn_count_eq([x0, x1, 1], x1, 3)", "fzn_count_eq([1, x1, 7, 7], x0, 2)", "fzn_count_eq([1, x1, 7, 7], x0, 0)", "fzn_count_eq([1, x1, 7], x1, x0)", "fzn_count_eq([x0, 3, x1], x0, x1)", "fzn_count_eq([x0, 2, 2], 2, x0)", "fzn_count_eq([], x0, 0)", "fzn_count_eq([], 3, x0)",
			"fzn_among(x0, [x1, 2, 7], {1,2,3})", "fzn_among(1, [x0, 2], {-9,2,980})", "fzn_among(2, [x0, 2], {-9,2,980})", "fzn_among(3, [x0, 2], {2})", "fzn_among(0, [x0, x1], {})", "fzn_among(x0, [x0, 2], {1,2})", "fzn_among(x0, [], {1,2})",
			"fzn_nvalue(x0, [x1, 1, 7])", "fzn_nvalue(2, [x0, x1, 7])", "fzn_nvalue(3, [x0, x1, 7])", "fzn_nvalue(1, [x0, x1])", "fzn_nvalue(x0, [x0, x1])", "fzn_nvalue(x0, [])", "fzn_nvalue(1, [x0, x0])", "fzn_nvalue(4, [x0, x1, 7])",
			"fzn_at_most_int(1, [x0, x1], 1)", "fzn_at_most_int(-1, [x0], 1)", "fzn_at_most_int(0, [x0, x0], 4)", "fzn_at_most_int(0, [x0], 1000000000)", "fzn_at_most_int(9, [x0], 4)", "fzn_at_least_int(1, [x0, x1], 4)", "fzn_at_least_int(2, [x0, x0], 4)", "fzn_at_least_int(3, [x0, x1], 1)", "fzn_at_least_int(-5, [x0], 1)", "fzn_at_least_int(1, [x0], -1000000000)",
			"fzn_value_precede_int(1, 2, [x0, x1, 2])", "fzn_value_precede_int(3, 1, [x0, x1])", "fzn_value_precede_int(1, 3, [x0, x1])", "fzn_value_precede_int(1, 3, [x1, x0])", "fzn_value_precede_int(1, 1, [x0, x1])", "fzn_value_precede_int(8, 9, [x0, x0])", "fzn_value_precede_int(2000000, 9, [x0])", "fzn_value_precede_int(9, 2000000, [x0])",
		},
		"seq": {
			"fzn_lex_less_int([x0, x1], [5, 1])", "fzn_lex_less_int([x0], [5, 1])", "fzn_lex_less_int([1, x0], [x1, 8])", "fzn_lex_less_int([1, 8], [x1, x0])", "fzn_lex_less_int([x0], [x0])", "fzn_lex_less_int([x0], [x0, x1])", "fzn_lex_less_int([x0, 2], [x0, x1])", "fzn_lex_less_int([], [x0])", "fzn_lex_less_int([x0], [])",
			"fzn_lex_lesseq_int([x0, x1], [5, 1])", "fzn_lex_lesseq_int([x0, x1], [5, 0])", "fzn_lex_lesseq_int([x0, 1], [5])", "fzn_lex_lesseq_int([5, 1], [x0])", "fzn_lex_lesseq_int([x0], [x0])", "fzn_lex_lesseq_int([x0, x1], [x1, x0])",
			"fzn_sort([x0, x1, 4], [1, 4, 77])", "fzn_sort([x0, x1, 4], [1, 3, 77])", "fzn_sort([7, x1, 4], [1, x0, 7])", "fzn_sort([x0, x1], [x0, x1])", "fzn_sort([x0, x1], [x1, x0])", "fzn_sort([x0], [x0])", "fzn_sort([x0, 3], [x0, x0])",
			"fzn_increasing_int([0, x0, x1, 3])", "fzn_increasing_int([x1, x0, 70])", "fzn_increasing_int([x0, x1, x0])", "fzn_strictly_increasing_int([x1, x0, 70])", "fzn_strictly_increasing_int([x0, x0])", "fzn_strictly_increasing_int([x1, x0, 2])", "fzn_decreasing_int([70, x0, x1])", "fzn_decreasing_int([0, x0, x1])", "fzn_decreasing_int([x0])",
			"fzn_inverse([x0, x1], [2, 1])", "fzn_inverse([2, 3, x1], [3, x0, 2])", "fzn_inverse([x0, x0], [x1, 2])", "fzn_inverse([x1], [x0])", "fzn_inverse([x0], [x0])", "fzn_inverse([2, 4], [x0, 1])", "fzn_inverse([3, 2, x0], [3, 2, x0])",
			"fzn_maximum_int(x0, [x1, 5, 3])", "fzn_maximum_int(5, [x1, x0, 3])", "fzn_maximum_int(5, [x1, x0, 5])", "fzn_maximum_int(x0, [x0, x1])", "fzn_maximum_int(5, [x0, 6])", "fzn_minimum_int(x0, [x1, 5, 3])", "fzn_minimum_int(x1, [x0, 3])", "fzn_minimum_int(x1, [x0, x1])", "fzn_minimum_int(x0, [x0, x1])", "fzn_minimum_int(5, [x0, 4])",
			"fzn_member_int([x1, 5, 3], x0)", "fzn_member_int([x0, 5, 3], x1)", "fzn_member_int([x0, x1], x1)", "fzn_member_int([x1, x0], x0)", "fzn_member_int([], x0)",
			"fzn_table_int([x0, x1], [1, 1, 2, 2, 7, 1, 7, 1, 2000, 1])", "fzn_table_int([x0, x0], [1, 1, 2, 1, 7, 7])", "fzn_table_int([x1, x0], [2, 5, 3, 6])", "fzn_table_int([x0], [])", "fzn_table_int([x0], [1000000000, 5])",
			"fzn_regular([x0, x1], 2, 2, [1, 2, 2, 0], 1, {2})", "fzn_regular([x0], 2, 3, [1, 2, 2, 0, 1, 1], 1, {2})", "fzn_regular([x1, x0, x0], 2, 3, [1, 2, 2, 0, 1, 1], 1, {1})", "fzn_regular([x0], 1, 2, [1, 1], 1, {})", "fzn_regular([x0, x1], 1, 2, [0, 0], 1, {1})", "fzn_regular([x0], 2, 1, [2, 2], 1, {0,2,3})",
		},
		"sched": {
			"fzn_circuit([x0, x1])", "fzn_circuit([3, x1, x0])", "fzn_circuit([x0])", "fzn_circuit([x0, x0])", "fzn_circuit([2, 3, 4, x0, x1])", "fzn_circuit([2, x1, x0])", "fzn_circuit([x0, 5, x1])", "fzn_subcircuit([x0, x1])", "fzn_subcircuit([x1, 2, x0])", "fzn_subcircuit([2, x0, 3])", "fzn_subcircuit([2, x1, x0])", "fzn_subcircuit([x0])", "fzn_subcircuit([2, 3, x0, 4])", "fzn_subcircuit([2, x1, 4, x0])",
			"fzn_cumulative([x0, 40], [7, 9], [x1, 1], 1)", "fzn_cumulative([x0, 40], [7, 9], [x1, 1], 2)", "fzn_cumulative([x0, 40, 44], [7, 9, 2], [x1, 1, 1], 2)", "fzn_cumulative([x1, 40], [x0, 9], [1, 1], 1)", "fzn_cumulative([x1, 3], [7, 9], [x0, 2], 5)", "fzn_cumulative([x1, 3], [7, 9], [2, 3], x0)", "fzn_cumulative([x0, 3], [x0, 1], [x0, x1], 5)", "fzn_cumulative([x0, 40], [0, 9], [5, 1], 1)", "fzn_cumulative([x0, 40], [1, 9], [5, 1], 1)", "fzn_cumulative([x0, x0], [1, 1], [5, x1], 5)", "fzn_cumulative([x0], [-1], [1], 1)", "fzn_cumulative([x0], [1], [1], -1)", "fzn_cumulative([], [], [], x0)",
			"fzn_disjunctive([x0, 40], [7, 9])", "fzn_disjunctive([x0, 40, x1], [7, 9, 9])", "fzn_disjunctive([x0, 40], [0, 9])", "fzn_disjunctive([x1, 40], [x0, 9])", "fzn_disjunctive([50, 40], [x1, x0])", "fzn_disjunctive([x0, x0], [x1, 1])", "fzn_disjunctive([x0, x0], [x1, 0])", "fzn_disjunctive([x0, 40], [x0, 9])", "fzn_disjunctive([x0, 40], [-1, 9])", "fzn_disjunctive([x0], [x0])",
			"fzn_diffn([x0, 40], [x1, 0], [7, 9], [2, 2])", "fzn_diffn([x0, 40], [x1, 2], [7, 9], [1, 2])", "fzn_diffn([40, 42], [x0, 50], [7, 9], [2, 2])", "fzn_diffn([40, x1], [50, 50], [7, x0], [2, 2])", "fzn_diffn([40, 42], [x1, 50], [7, 9], [x0, 2])", "fzn_diffn([x0, 40], [x1, 0], [7, 9], [2, 0])", "fzn_diffn([x0, 40], [x0, 40], [7, 9], [2, 2])", "fzn_diffn([x0, x0], [x1, x1], [1, 1], [x1, x0])", "fzn_diffn([x0], [x1], [-1], [2])",
			"fzn_bin_packing(5, [x0, x1, 30, 30], [3, 3, 1, 2])", "fzn_bin_packing(5, [x0, x1, 30, 30], [3, 3, 1, 1])", "fzn_bin_packing(2, [x0, x1], [3, 0])", "fzn_bin_packing(5, [x0, x0], [3, 3])", "fzn_bin_packing(-1, [x0], [0])", "fzn_bin_packing(5, [x0, x0, x1], [3, 2, 1])", "fzn_bin_packing_capa([5, 2, 7], [x0, x1, 3], [3, 3, 4])", "fzn_bin_packing_capa([5, 2, 7], [x0, x0, 3], [2, 1, 5])", "fzn_bin_packing_capa([5, -1], [x0], [0])", "fzn_bin_packing_capa([], [x0], [0])", "fzn_bin_packing_capa([1000000000, 1], [x0, x1], [999999999, 1])",
			"fzn_bin_packing_load([x0, 3], [x1, 2], [4, 3])", "fzn_bin_packing_load([x0, 3], [x1, 1], [4, 3])", "fzn_bin_packing_load([7, 0], [x1, x0], [4, 3])", "fzn_bin_packing_load([4, 3, 0], [x1, x0], [4, 3])", "fzn_bin_packing_load([4, 3, 0], [x0, x0], [4, 3])", "fzn_bin_packing_load([0, 7], [x0, x0], [4, 3])", "fzn_bin_packing_load([x0, x0], [x1, 2], [4, 4])", "fzn_bin_packing_load([x0, x1], [x0, x1], [0, 0])", "fzn_bin_packing_load([x0, x1], [x0, x1], [0, 1])", "fzn_bin_packing_load([x0], [], [])", "fzn_bin_packing_load([], [x0], [0])",
			"fzn_knapsack([2, 3], [1, 5], [x0, x1], 23, 15)", "fzn_knapsack([2, 3], [1, 5], [x0, x1], 24, 15)", "fzn_knapsack([2, 3], [1, 5], [7, x1], x0, 12)", "fzn_knapsack([2, 3], [1, 5], [7, x1], 17, x0)", "fzn_knapsack([2, 3], [1, 5], [7, x1], x0, x0)", "fzn_knapsack([0], [0], [x0], 0, 0)", "fzn_knapsack([1, 0], [0, 1], [x0, x0], x0, x0)", "fzn_knapsack([1, 1], [1, 1], [x0, x0], 90, 90)", "fzn_knapsack([], [], [], x0, 0)", "fzn_knapsack([1000000000], [0], [x0], 0, 0)",
		},
	}
}

// P7.5, and so of chapters 8 to 13: one is left, with MaxScan values and with one more; of these nothing that holds is lost.
func TestOneLeft(t *testing.T) {
	for _, f := range faces() {
		for _, text := range leftOver()[f.name] {
			for _, size := range []int64{api.MaxScan, api.MaxScan + 1} {
				c, d := parsed(t, text), []api.Dom{num(r(-9, size-10)), num(r(1, 1))}
				var good []int64
				for n := range dom.Each(d[0].R) {
					if f.means(c, []api.Val{{N: n}, {N: 1}}) == yes {
						good = append(good, n)
					}
				}
				want, _ := dom.Of(good...)
				got, what, e := f.prune(c, d)
				failed, just := what == api.Fail, size == api.MaxScan
				switch {
				case e != api.OK || failed && len(good) > 0:
					t.Error("Prune", text, size, what, e)
				case !failed && !dom.Within(want, got[0].R):
					t.Error("lost", text, size, tellDom(got[0]))
				case just && failed != (len(good) == 0), just && !failed && !dom.Same(want, got[0].R):
					t.Error("not just what holds", text, size)
				}
			}
		}
	}
}
