package cons_test

import (
	"iter"
	"math"
	"slices"
	"strings"
	"testing"

	"jigsaw/api"
	"jigsaw/cons"
)

const (
	least    = math.MinInt64
	greatest = math.MaxInt64
	maxBig   = int64(api.Big)
	maxCoef  = int64(api.Coef)
)

// document is the table of constraints, as the document writes it: family by family.
func document() []struct{ family, text string } {
	return []struct{ family, text string }{
		{"linear", "int_eq (I,I); int_ne (I,I); int_le (I,I); int_lt (I,I); int_eq_reif (I,I,B); int_ne_reif (I,I,B); int_le_reif (I,I,B); int_lt_reif (I,I,B); int_eq_imp (I,I,B); int_ne_imp (I,I,B); int_le_imp (I,I,B); int_lt_imp (I,I,B); int_lin_eq (ai,aI,i); int_lin_ne (ai,aI,i); int_lin_le (ai,aI,i); int_lin_eq_reif (ai,aI,i,B); int_lin_ne_reif (ai,aI,i,B); int_lin_le_reif (ai,aI,i,B); int_lin_eq_imp (ai,aI,i,B); int_lin_ne_imp (ai,aI,i,B); int_lin_le_imp (ai,aI,i,B); bool_lin_eq (ai,aB,I); bool_lin_le (ai,aB,i)"},
		{"arith", "int_plus (I,I,I); int_times (I,I,I); int_div (I,I,I); int_mod (I,I,I); int_min (I,I,I); int_max (I,I,I); int_pow (I,I,I); int_abs (I,I); array_int_element (I,ai,I); array_var_int_element (I,aI,I); array_bool_element (I,ab,B); array_var_bool_element (I,aB,B); array_set_element (I,as,S)"},
		{"logic", "bool2int (B,I); bool_eq (B,B); bool_ne (B,B); bool_le (B,B); bool_lt (B,B); bool_not (B,B); bool_eq_reif (B,B,B); bool_ne_reif (B,B,B); bool_le_reif (B,B,B); bool_lt_reif (B,B,B); bool_and (B,B,B); bool_or (B,B,B); bool_xor (B,B,B); bool_clause (aB,aB); bool_clause_reif (aB,aB,B); array_bool_and (aB,B); array_bool_or (aB,B); array_bool_xor (aB)"},
		{"setcon", "set_in (I,S); set_in_reif (I,S,B); set_in_imp (I,S,B); set_card (S,I); set_eq (S,S); set_ne (S,S); set_subset (S,S); set_superset (S,S); set_le (S,S); set_lt (S,S); set_eq_reif (S,S,B); set_ne_reif (S,S,B); set_subset_reif (S,S,B); set_superset_reif (S,S,B); set_le_reif (S,S,B); set_lt_reif (S,S,B); set_union (S,S,S); set_intersect (S,S,S); set_diff (S,S,S); set_symdiff (S,S,S)"},
		{"count", "fzn_all_different_int (aI); fzn_all_equal_int (aI); fzn_global_cardinality (aI,ai,aI); fzn_global_cardinality_closed (aI,ai,aI); fzn_count_eq (aI,I,I); fzn_among (I,aI,s); fzn_nvalue (I,aI); fzn_at_most_int (i,aI,i); fzn_at_least_int (i,aI,i); fzn_value_precede_int (i,i,aI)"},
		{"seq", "fzn_lex_less_int (aI,aI); fzn_lex_lesseq_int (aI,aI); fzn_sort (aI,aI); fzn_increasing_int (aI); fzn_strictly_increasing_int (aI); fzn_decreasing_int (aI); fzn_inverse (aI,aI); fzn_maximum_int (I,aI); fzn_minimum_int (I,aI); fzn_member_int (aI,I); fzn_table_int (aI,ai); fzn_regular (aI,i,i,ai,i,s)"},
		{"sched", "fzn_circuit (aI); fzn_subcircuit (aI); fzn_cumulative (aI,aI,aI,I); fzn_disjunctive (aI,aI); fzn_diffn (aI,aI,aI,aI); fzn_bin_packing (i,aI,ai); fzn_bin_packing_capa (ai,aI,ai); fzn_bin_packing_load (aI,aI,ai); fzn_knapsack (ai,ai,aI,I,I)"},
	}
}

// listed tells each name with its form, in the document's order.
func listed() iter.Seq2[string, string] {
	return func(yield func(string, string) bool) {
		for _, family := range document() {
			for _, entry := range strings.Split(family.text, "; ") {
				name, form, _ := strings.Cut(entry, " ")
				if !yield(name, strings.Trim(form, "()")) {
					return
				}
			}
		}
	}
}

// kinds is some variables: 0, 2 and 4 are numbers, 1 and 3 are sets.
func kinds() []bool { return []bool{false, true, false, true, false} }

// variable: does the letter let variables stand there?
func variable(letter string) bool { return strings.Contains("IBS", letter) }

// sampleTerm is the term number k of an array of a letter, or (0) the only one: of variables and constants by turns.
func sampleTerm(letter string, k int) api.Term {
	if k%2 == 0 && variable(letter) {
		return cons.Var(map[string]int{"I": 0, "B": 2, "S": 3}[letter])
	}
	switch letter {
	case "b", "B":
		return cons.Int(int64(k / 2 % 2))
	case "s", "S":
		return cons.Set(int64(k), int64(k)+7)
	}
	return cons.Int(int64(k) + 1)
}

// sample is a constraint of kinds that can be, whose arrays have size elements (at least 1).
func sample(name, form string, size int) api.Con {
	c := api.Con{Name: name}
	for _, part := range strings.Split(form, ",") {
		letter, array := strings.CutPrefix(part, "a")
		if !array {
			c.Args = append(c.Args, cons.One(sampleTerm(letter, 0)))
			continue
		}
		var l []api.Term
		for k := range size {
			l = append(l, sampleTerm(letter, k))
		}
		c.Args = append(c.Args, cons.List(l...))
	}
	if name == "fzn_regular" { // as many states as the table has numbers, one letter
		c.Args[1] = cons.One(cons.Int(int64(size)))
	}
	return c
}

// samples is a constraint of each name that can be, with its form.
func samples() iter.Seq2[api.Con, string] {
	return func(yield func(api.Con, string) bool) {
		for name, form := range listed() {
			if !yield(sample(name, form, 2), form) {
				return
			}
		}
	}
}

// run is n numbers, one behind the other, from first on.
func run(n int, first int64) []int64 {
	out := make([]int64, n)
	for i := range out {
		out[i] = first + int64(i)
	}
	return out
}

// noSets are lists that are no sets, each in another way.
func noSets() [][]int64 {
	return [][]int64{
		{2, 1}, {1, 1}, {1, 2, 2}, {1, 3, 2}, {-maxBig - 1, 0}, {0, maxBig + 1}, {least}, {greatest}, {least, greatest},
		run(api.MaxElems+1, 0),
	}
}

// isRight holds what Right answers of kinds against what is wanted.
func isRight(t *testing.T, c api.Con, want api.Errno) {
	t.Helper()
	if e := cons.Right(c, kinds()); e != want {
		text := cons.Text(c)
		t.Errorf("Right of %s: %d; want %d", text[:min(len(text), 200)], e, want)
	}
}

// parsed is the constraint of a text that can be read.
func parsed(t *testing.T, s string) api.Con {
	t.Helper()
	c, e := cons.Parse(s)
	if e != api.OK {
		t.Fatal("Parse", s, e)
	}
	return c
}

// spoil writes into all lists of a constraint, and appends to them.
func spoil(c api.Con) {
	for i, a := range c.Args {
		for j, x := range a.L {
			for k := range x.C.S {
				x.C.S[k] = -77
			}
			_ = append(x.C.S, -78)
			a.L[j] = api.Term{Var: 77, C: api.Val{N: 77}}
		}
		_ = append(a.L, api.Term{Var: 78})
		c.Args[i] = api.Arg{Array: !a.Array}
	}
	_ = append(c.Args, api.Arg{})
}

// alike holds values against each other, field by field.
func alike(t *testing.T, what string, got, want api.Val) {
	t.Helper()
	if got.Set != want.Set || got.N != want.N || !slices.Equal(got.S, want.S) {
		t.Errorf("%s: %v; want %v", what, got, want)
	}
}
