package cons

import (
	"iter"
	"strings"
)

// head is what the constraints of a row have in common: the package of their family, and their form.
type head struct {
	family string
	form   string
}

// row is constraints with one head that follow each other in the table: their names, with a blank between.
type row struct {
	head
	names string
}

// rows goes through the table. (So great a table is made inside a function, and not kept.)
func rows(yield func(row) bool) {
	for _, r := range [...]row{
		{head{"linear", "I,I"}, "int_eq int_ne int_le int_lt"},
		{head{"linear", "I,I,B"}, "int_eq_reif int_ne_reif int_le_reif int_lt_reif int_eq_imp int_ne_imp int_le_imp int_lt_imp"},
		{head{"linear", "ai,aI,i"}, "int_lin_eq int_lin_ne int_lin_le"},
		{head{"linear", "ai,aI,i,B"}, "int_lin_eq_reif int_lin_ne_reif int_lin_le_reif int_lin_eq_imp int_lin_ne_imp int_lin_le_imp"},
		{head{"linear", "ai,aB,I"}, "bool_lin_eq"},
		{head{"linear", "ai,aB,i"}, "bool_lin_le"},
		{head{"arith", "I,I,I"}, "int_plus int_times int_div int_mod int_min int_max int_pow"},
		{head{"arith", "I,I"}, "int_abs"},
		{head{"arith", "I,ai,I"}, "array_int_element"},
		{head{"arith", "I,aI,I"}, "array_var_int_element"},
		{head{"arith", "I,ab,B"}, "array_bool_element"},
		{head{"arith", "I,aB,B"}, "array_var_bool_element"},
		{head{"arith", "I,as,S"}, "array_set_element"},
		{head{"logic", "B,I"}, "bool2int"},
		{head{"logic", "B,B"}, "bool_eq bool_ne bool_le bool_lt bool_not"},
		{head{"logic", "B,B,B"}, "bool_eq_reif bool_ne_reif bool_le_reif bool_lt_reif bool_and bool_or bool_xor"},
		{head{"logic", "aB,aB"}, "bool_clause"},
		{head{"logic", "aB,aB,B"}, "bool_clause_reif"},
		{head{"logic", "aB,B"}, "array_bool_and array_bool_or"},
		{head{"logic", "aB"}, "array_bool_xor"},
		{head{"setcon", "I,S"}, "set_in"},
		{head{"setcon", "I,S,B"}, "set_in_reif set_in_imp"},
		{head{"setcon", "S,I"}, "set_card"},
		{head{"setcon", "S,S"}, "set_eq set_ne set_subset set_superset set_le set_lt"},
		{head{"setcon", "S,S,B"}, "set_eq_reif set_ne_reif set_subset_reif set_superset_reif set_le_reif set_lt_reif"},
		{head{"setcon", "S,S,S"}, "set_union set_intersect set_diff set_symdiff"},
		{head{"count", "aI"}, "fzn_all_different_int fzn_all_equal_int"},
		{head{"count", "aI,ai,aI"}, "fzn_global_cardinality fzn_global_cardinality_closed"},
		{head{"count", "aI,I,I"}, "fzn_count_eq"},
		{head{"count", "I,aI,s"}, "fzn_among"},
		{head{"count", "I,aI"}, "fzn_nvalue"},
		{head{"count", "i,aI,i"}, "fzn_at_most_int fzn_at_least_int"},
		{head{"count", "i,i,aI"}, "fzn_value_precede_int"},
		{head{"seq", "aI,aI"}, "fzn_lex_less_int fzn_lex_lesseq_int fzn_sort"},
		{head{"seq", "aI"}, "fzn_increasing_int fzn_strictly_increasing_int fzn_decreasing_int"},
		{head{"seq", "aI,aI"}, "fzn_inverse"},
		{head{"seq", "I,aI"}, "fzn_maximum_int fzn_minimum_int"},
		{head{"seq", "aI,I"}, "fzn_member_int"},
		{head{"seq", "aI,ai"}, "fzn_table_int"},
		{head{"seq", "aI,i,i,ai,i,s"}, "fzn_regular"},
		{head{"sched", "aI"}, "fzn_circuit fzn_subcircuit"},
		{head{"sched", "aI,aI,aI,I"}, "fzn_cumulative"},
		{head{"sched", "aI,aI"}, "fzn_disjunctive"},
		{head{"sched", "aI,aI,aI,aI"}, "fzn_diffn"},
		{head{"sched", "i,aI,ai"}, "fzn_bin_packing"},
		{head{"sched", "ai,aI,ai"}, "fzn_bin_packing_capa"},
		{head{"sched", "aI,aI,ai"}, "fzn_bin_packing_load"},
		{head{"sched", "ai,ai,aI,I,I"}, "fzn_knapsack"},
	} {
		if !yield(r) {
			return
		}
	}
}

// each is the names of a row, in order.
func (r row) each() iter.Seq[string] {
	return func(yield func(string) bool) {
		for rest := r.names; rest != ""; {
			var name string
			name, rest, _ = strings.Cut(rest, " ")
			if !yield(name) {
				return
			}
		}
	}
}

// find is the head of the row that a constraint stands in; the empty head, which no row has, if there is none of that name.
func find(name string) head {
	for r := range rows {
		for n := range r.each() {
			if n == name {
				return r.head
			}
		}
	}
	return head{}
}
