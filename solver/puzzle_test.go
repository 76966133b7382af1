package solver_test

import (
	"fmt"
	"strings"
	"testing"

	"jigsaw/api"
	"jigsaw/solver"
)

// queens is the text of n queens on a board, none of which takes another.
func queens(n int) string {
	var s strings.Builder
	var names []string
	for i := range n {
		fmt.Fprintf(&s, "var 1..%d: q%d; ", n, i)
		names = append(names, fmt.Sprint("q", i))
	}
	all := strings.Join(names, ", ")
	fmt.Fprintf(&s, "array [1..%d] of var int: q :: output_array([1..%d]) = [%s];\n", n, n, all)
	s.WriteString("constraint fzn_all_different_int(q);\n")
	for i := range n {
		for j := range i {
			fmt.Fprintf(&s, "constraint int_lin_ne([1, -1], [q%d, q%d], %d); constraint int_lin_ne([1, -1], [q%d, q%d], %d);\n", i, j, i-j, i, j, j-i)
		}
	}
	return s.String() + "solve :: int_search(q, first_fail, indomain_min, complete) satisfy;"
}

// All queens, however they are looked for.
func TestQueens(t *testing.T) {
	for _, c := range []struct{ n, sols int }{{1, 1}, {2, 0}, {3, 0}, {4, 2}, {5, 10}, {6, 4}, {7, 40}} {
		for _, line := range []string{"-a -n 100000", "-a -n 100000 -r luby 20 -g", "-a -n 100000 -r geometric 10 -d 4,5,6"} {
			l, last := blocks(ran(t, queens(c.n), line))
			want := equals
			if c.sols == 0 {
				want = unsat
			}
			if last != want || len(l) != c.sols {
				t.Error(c.n, line, len(l), last)
			}
		}
	}
}

const money = `
% S E N D + M O R E = M O N E Y
var 0..9: s :: output_var; var 0..9: e; var 0..9: n; var 0..9: d; var 0..9: m; var 0..9: o; var 0..9: r; var 0..9: y :: output_var;
array [1..8] of var int: all :: output_array([1..8]) = [s, e, n, d, m, o, r, y];
array [1..8] of int: weights = [1000, 91, -90, 1, -9000, -900, 10, -1];
constraint fzn_all_different_int(all) :: domain;
constraint int_lin_eq(weights, all, 0);
constraint int_ne(s, 0); constraint int_ne(m, 0);
solve :: int_search(all, first_fail, indomain_min, complete) satisfy;
`

const knapsack = `
array [1..4] of int: weights = [5, 4, 3, 2];
array [1..4] of int: profits = [8, 6, 4, 3];
var 0..3: a :: output_var; var 0..3: b :: output_var; var 0..3: c :: output_var; var 0..3: d :: output_var;
array [1..4] of var int: all = [a, b, c, d];
var 0..16: weight; var 0..1000: profit :: output_var;
constraint fzn_knapsack(weights, profits, all, weight, profit);
solve :: int_search(all, input_order, indomain_max, complete) maximize profit;
`

// Puzzles whose answers are known.
func TestPuzzles(t *testing.T) {
	if s := ran(t, money, "-a -n 10000"); s != "s = 9;\ny = 2;\nall = array1d(1..8, [9, 5, 6, 7, 1, 0, 8, 2]);\n"+dashes+equals {
		t.Error("money", s)
	}
	for _, line := range []string{"-n 100000", "-n 100000 -r luby 50 -g -l 50 -d 3,1,4,1,5"} {
		l, last := blocks(ran(t, knapsack, line))
		if last != equals || !strings.Contains(l[len(l)-1], "profit = 25;\n") {
			t.Error("knapsack", l, last)
		}
	}
}

// P4: with any budget a run ends, and what is printed by a small one is the beginning of what is printed by a greater one, where nothing is started anew.
func TestBudgets(t *testing.T) {
	for _, s := range []string{queens(6), money, knapsack} {
		full, _ := blocks(ran(t, s, "-a -n 100000"))
		all := strings.Join(full, "")
		for _, nodes := range []int64{1, 2, 3, 5, 8, 13, 21, 34, 55, 89, 144} {
			l, last := blocks(solver.Run(s, api.Options{All: true, Nodes: nodes}))
			if !strings.HasPrefix(all, strings.Join(l, "")) || last == unsat || last == equals && len(l) != len(full) {
				t.Error(nodes, l, last)
			}
		}
	}
}
