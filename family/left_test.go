package family_test

import (
	"testing"

	"jigsaw/api"
	"jigsaw/dom"
)

// leftOver is constraints of each family over x0, which is left, and x1, which is 1.
func leftOver() map[string][]string {
	return map[string][]string{
		"linear": {
			"int_eq(x0, 77)", "int_ne(x0, 77)", "int_ne(x0, x1)", "int_lt(x0, x1)", "int_eq_reif(x0, x1, 0)", "int_le_reif(x0, x1, 0)", "int_le_imp(x0, x1, 1)", "int_lin_eq([3, 1], [x0, x1], 91)", "int_lin_eq([3, 1], [x0, x1], 92)",
			"int_lin_ne([3, 1], [x0, x1], 91)", "int_lin_le([-3, 1], [x0, x1], 91)", "int_lin_le([3, -3], [x0, x0], 0)", "int_lin_eq_reif([3, 1], [x0, x1], 91, 0)", "int_lin_ne_imp([3], [x0], 90, 1)", "bool_lin_eq([3, 74], [1, 1], x0)",
		},
		"arith": {
			"int_plus(x0, x1, 77)", "int_times(x0, 3, x0)", "int_times(x0, 2, 80)", "int_times(x0, x0, 81)", "int_div(x0, 7, 3)", "int_div(500, x0, 7)", "int_mod(x0, 7, 3)", "int_mod(500, x0, 3)", "int_mod(x0, x0, 0)", "int_min(x0, 30, 30)", "int_min(x0, 30, 31)", "int_max(x0, 30, 30)", "int_abs(x0, 5)", "int_abs(x0, x0)",
			"int_pow(x0, 3, -8)", "int_pow(x0, -1, 0)", "int_pow(-1, x0, 1)", "array_int_element(x0, [1, 5, 1], x1)", "array_int_element(2, [1, 5, 1], x0)", "array_int_element(x0, [3, 2, 3], x0)", "array_var_int_element(x0, [1, x1, x0], 1)", "array_var_int_element(1, [x0, x1], 44)", "array_var_int_element(2, [x0, x1], 1)", "array_var_bool_element(1, [1, x0], x1)",
		},
		"logic": {
			"bool2int(x0, x1)", "bool2int(x1, x0)", "bool2int(0, x0)", "bool2int(x0, x0)", "bool2int(x0, 7)", "bool_eq(x0, x1)", "bool_ne(x0, x0)", "bool_lt(x0, x1)", "bool_lt(x1, x0)", "bool_le(x1, x0)", "bool_not(x0, x1)", "bool_eq_reif(x0, 0, x1)", "bool_le_reif(x0, 0, x0)", "bool_lt_reif(x0, x1, x0)",
			"bool_and(x0, x1, x0)", "bool_or(x0, x1, 0)", "bool_xor(x0, x1, x0)", "bool_clause([x0], [x1])", "bool_clause([0], [x0, x1])", "bool_clause([x0], [x0])", "bool_clause_reif([x0], [x1], 0)", "bool_clause_reif([], [x0], x0)", "array_bool_and([x0, x1], x1)", "array_bool_and([], x0)", "array_bool_or([x0, 0], x1)", "array_bool_or([], x0)", "array_bool_xor([x0, x1])", "array_bool_xor([x0, x0, x0])", "array_bool_xor([x0, x0])",
		},
		"setcon": {
			"set_in(x0, {-9,5,990,991})", "set_in(x0, {})", "set_in(x0, {992})", "set_in_reif(x0, {-9,5,990}, x1)", "set_in_reif(x0, {-9,5,990}, 0)", "set_in_reif(x0, {0,1,2}, x0)", "set_in_reif(x0, {0}, x0)", "set_in_imp(x0, {1,3}, x1)", "set_in_imp(x0, {1,3}, 0)", "set_in_imp(x0, {0}, x0)", "set_in_imp(x1, {3}, x0)",
			"set_card({1,3,5}, x0)", "set_card({}, x0)", "set_eq_reif({1}, {1}, x0)", "set_ne_reif({1}, {1}, x0)", "set_subset_reif({1}, {1,2}, x0)", "set_superset_reif({1}, {1,2}, x0)", "set_le_reif({1}, {1,2}, x0)", "set_lt_reif({1,2}, {1}, x0)",
		},
	}
}

// P7.5, P8.5, P9.5, P10.5: one is left, with MaxScan values and with one more; of these nothing that holds is lost.
func TestOneLeft(t *testing.T) {
	for _, f := range faces() {
		for _, text := range leftOver()[f.name] {
			for _, size := range []int64{api.MaxScan, api.MaxScan + 1} {
				c, d := parsed(t, text), []api.Dom{num(r(-9, size-10)), num(r(1, 1))}
				var good []int64
				for n := range dom.Each(d[0].R) {
					if f.means(c, []api.Val{{N: n}, {N: 1}}) == yes {
						good = append(good, n)
					}
				}
				want, _ := dom.Of(good...)
				got, what, e := f.prune(c, d)
				failed, just := what == api.Fail, size == api.MaxScan
				switch {
				case e != api.OK || failed && len(good) > 0:
					t.Error("Prune", text, size, what, e)
				case !failed && !dom.Within(want, got[0].R):
					t.Error("lost", text, size, tellDom(got[0]))
				case just && failed != (len(good) == 0), just && !failed && !dom.Same(want, got[0].R):
					t.Error("not just what holds", text, size)
				}
			}
		}
	}
}
