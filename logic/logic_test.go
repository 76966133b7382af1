package logic_test

import (
	"slices"
	"strings"
	"testing"

	"jigsaw/api"
	"jigsaw/cons"
	"jigsaw/logic"
)

// The chapter's examples.
func TestExamples(t *testing.T) {
	holds(t, parsed(t, "bool_clause([x0], [x1])"), false, 0, 1)
	prunes(t, "array_bool_xor([x0, x1])", "1 0..1", "1 0")
	holds(t, parsed(t, "bool_and(x0, x1, x2)"), false, 1, 1, 0)
}

// tables is the truths with which each constraint without arrays holds.
func tables() map[string]string {
	return map[string]string{
		"bool2int": "00 11", "bool_eq": "00 11", "bool_ne": "01 10", "bool_not": "01 10", "bool_le": "00 01 11", "bool_lt": "01",
		"bool_eq_reif": "001 010 100 111", "bool_ne_reif": "000 011 101 110", "bool_le_reif": "001 011 100 111", "bool_lt_reif": "000 011 100 110",
		"bool_and": "000 010 100 111", "bool_or": "000 011 101 111", "bool_xor": "000 011 101 110",
	}
}

// P9.1, P9.4: what they mean, of all truths, be they values or constants; Prune decides alike.
func TestTables(t *testing.T) {
	for name, yes := range tables() {
		size := len(strings.Fields(yes)[0])
		for mask := range 1 << size {
			var text string
			var numbers []int64
			var consts, vars []api.Term
			var d []api.Dom
			for i := range size {
				n := int64(mask >> i & 1)
				text += string(rune('0' + n))
				numbers, consts, vars = append(numbers, n), append(consts, cons.Int(n)), append(vars, cons.Var(i))
				d = append(d, api.Dom{R: []api.Range{{Lo: n, Hi: n}}})
			}
			want := slices.Contains(strings.Fields(yes), text)
			holds(t, among(name, consts...), want)
			holds(t, among(name, vars...), want, numbers...)
			for _, l := range [][]api.Term{consts, vars} {
				got, what, e := logic.Prune(among(name, l...), d)
				if e != api.OK || want && (what != api.Same || told(got) != told(d)) || !want && (what != api.Fail || len(got) > 0) {
					t.Error("Prune", name, numbers, got, what, e)
				}
			}
		}
	}
}

// P9.1: what they mean, of arrays.
func TestArrays(t *testing.T) {
	for text, want := range map[string]bool{
		"bool_clause([], [])": false, "bool_clause([0], [])": false, "bool_clause([1], [])": true, "bool_clause([], [1])": false, "bool_clause([], [0])": true,
		"bool_clause([0, 0], [1, 1])": false, "bool_clause([0, 1], [1, 1])": true, "bool_clause([0, 0], [1, 0])": true,
		"bool_clause_reif([], [], 0)": true, "bool_clause_reif([], [], 1)": false, "bool_clause_reif([0], [1], 0)": true, "bool_clause_reif([0], [1], 1)": false, "bool_clause_reif([1], [1], 1)": true, "bool_clause_reif([], [0], 0)": false,
		"array_bool_and([], 1)": true, "array_bool_and([], 0)": false, "array_bool_and([1, 1], 1)": true, "array_bool_and([1, 0], 1)": false, "array_bool_and([1, 0], 0)": true, "array_bool_and([1], 0)": false,
		"array_bool_or([], 0)": true, "array_bool_or([], 1)": false, "array_bool_or([0, 0], 0)": true, "array_bool_or([0, 1], 0)": false, "array_bool_or([0, 1], 1)": true, "array_bool_or([1], 1)": true,
		"array_bool_xor([])": false, "array_bool_xor([0])": false, "array_bool_xor([1])": true, "array_bool_xor([1, 1])": false, "array_bool_xor([1, 1, 1])": true, "array_bool_xor([1, 0, 0])": true,
	} {
		c := parsed(t, text)
		holds(t, c, want)
		d, what, e := logic.Prune(c, nil)
		if len(d) > 0 || e != api.OK || (what == api.Same) != want || (what == api.Fail) == want {
			t.Error("Prune", text, d, what, e)
		}
	}
}

// P9.1: a variable that stands twice, and values in their places.
func TestHoldsOfVariables(t *testing.T) {
	for text, want := range map[string][4]bool{ // of x0, x1: 0 0, 0 1, 1 0, 1 1
		"bool_eq(x0, x0)": {true, true, true, true}, "bool_ne(x0, x0)": {}, "bool_lt(x1, x1)": {}, "bool_le(x1, x0)": {true, false, true, true}, "bool_not(x1, x0)": {false, true, true, false},
		"bool_eq_reif(x0, x1, x0)": {false, true, false, true}, "bool_le_reif(x0, x0, x1)": {false, true, false, true}, "bool_and(x0, x0, x1)": {true, false, false, true}, "bool_xor(x0, x0, x1)": {true, false, true, false},
		"bool_clause([x0], [x0])": {true, true, true, true}, "bool_clause([x0, x0], [x1, 1])": {true, false, true, true}, "bool_clause_reif([x0], [x1], x1)": {false, false, false, true}, "array_bool_and([x0, x1, x0], x1)": {true, false, true, true},
		"array_bool_or([x0, 0], x1)": {true, false, false, true}, "array_bool_xor([x0, x0, x1])": {false, true, false, true}, "array_bool_xor([x0, 1, x1, 1])": {false, true, true, false},
	} {
		for i, w := range want {
			holds(t, parsed(t, text), w, int64(i/2), int64(i%2))
		}
	}
}

// P9.1: a truth that is neither 0 nor 1: as a value it makes nothing hold, as a constant the constraint can not be.
func TestNoTruths(t *testing.T) {
	for text, good := range map[string][]int64{
		"bool2int(x0, x1)": {1, 1}, "bool_eq(x0, x1)": {0, 0}, "bool_ne(x0, x1)": {0, 1}, "bool_le(x0, x1)": {0, 1}, "bool_lt(x0, x1)": {0, 1}, "bool_not(x0, x1)": {1, 0},
		"bool_eq_reif(x0, x1, x2)": {0, 1, 0}, "bool_ne_reif(x0, x1, x2)": {0, 0, 0}, "bool_le_reif(x0, x1, x2)": {1, 0, 0}, "bool_lt_reif(x0, x1, x2)": {1, 0, 0}, "bool_and(x0, x1, x2)": {0, 0, 0}, "bool_or(x0, x1, x2)": {1, 1, 1}, "bool_xor(x0, x1, x2)": {1, 1, 0},
		"bool_clause([x0, x1], [x2, x3])": {1, 1, 0, 0}, "bool_clause_reif([x0, x1], [x2], x3)": {1, 1, 0, 1}, "array_bool_and([x0, x1], x2)": {0, 0, 0}, "array_bool_or([x0, x1], x2)": {1, 1, 1}, "array_bool_xor([x0, x1, x2])": {1, 1, 1},
	} {
		c := parsed(t, text)
		holds(t, c, true, good...)
		for i := range good {
			for _, wrong := range []int64{-maxBig, -1, 2, 3, maxBig} {
				numbers := slices.Clone(good)
				numbers[i] = wrong
				holds(t, c, false, numbers...)
			}
			for _, wrong := range []int64{-1, 2} {
				refusesConstant(t, c, i, wrong)
			}
		}
	}
}

// refusesConstant puts a number instead of a variable, where it can not stand unless it may be any number.
func refusesConstant(t *testing.T, c api.Con, v int, n int64) {
	t.Helper()
	c, size := cons.Copy(c), len(cons.Vars(c))
	for _, a := range c.Args {
		for i, x := range a.L {
			if x.Var == v {
				a.L[i] = cons.Int(n)
			}
		}
	}
	want := api.ErrCon
	if c.Name == "bool2int" && v == 1 {
		want = api.OK
	}
	if ok, e := logic.Holds(c, make([]api.Val, size)); ok || e != want {
		t.Error("Holds", cons.Text(c), ok, e)
	}
	d := make([]api.Dom, size)
	for i := range d {
		d[i].R = []api.Range{{Lo: 0, Hi: 1}}
	}
	if got, what, e := logic.Prune(c, d); got != nil || e != want || (what == api.Fail) != (want == api.OK) {
		t.Error("Prune", cons.Text(c), got, what, e)
	}
}
