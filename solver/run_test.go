package solver_test

import (
	"slices"
	"strings"
	"testing"

	"jigsaw/api"
	"jigsaw/out"
	"jigsaw/parse"
	"jigsaw/post"
	"jigsaw/solver"
)

// The ten examples of the whole, those where the blocks may come in some order by their sorted blocks.
func TestExamples(t *testing.T) {
	const x = "var 1..3: x :: output_var; "
	for _, c := range []struct{ program, line, want string }{
		{x + "constraint int_lt(x, x); solve satisfy;", "-n 100", unsat},
		{"solve satisfy", "-n 100", "=====ERROR===== 160 0 13\n"},
		{"var float: x; solve satisfy;", "-n 100", "=====ERROR===== 173 0 4\n"},
		{"var 1..3: x; constraint foo(x); solve satisfy;", "-n 100", "=====ERROR===== 173 2 0\n"},
		{"var 1..3: x; constraint int_le(x, true); solve satisfy;", "-n 100", "=====ERROR===== 170 2 0\n"},
		{"var 1..3: x; constraint int_le(z, 1); solve satisfy;", "-n 100", "=====ERROR===== 171 2 0\n"},
		{"var 1..3: x; array [1..2] of var int: a :: output_array([0..1]) = [x, 7]; constraint int_eq(x, 3); solve satisfy;", "-n 100", "a = array1d(0..1, [3, 7]);\n" + dashes + equals},
		{x + "constraint int_pow(10, 20, x); solve satisfy;", "-a -n 100", unknown},
		{"var 1..9: x :: output_var; var 1..9: y; constraint int_ne(x, y); solve satisfy;", "-n 1", unknown},
	} {
		if s := ran(t, c.program, c.line); s != c.want {
			t.Errorf("%s: %q", c.program, s)
		}
	}
	for _, c := range []struct {
		program string
		want    []string
	}{
		{x + "solve satisfy;", []string{"x = 1;\n", "x = 2;\n", "x = 3;\n"}},
		{"var set of 1..2: s :: output_var; solve satisfy;", []string{"s = 1..2;\n", "s = {1};\n", "s = {2};\n", "s = {};\n"}},
	} {
		l, last := blocks(ran(t, c.program, "-a -n 100"))
		for i := range c.want {
			c.want[i] += dashes
		}
		if last != equals || !slices.Equal(sorted(l), c.want) {
			t.Errorf("%s: %q, %q", c.program, l, last)
		}
	}
	l, last := blocks(ran(t, x+"solve maximize x;", "-n 100"))
	if last != equals || !slices.IsSorted(l) || l[len(l)-1] != "x = 3;\n"+dashes {
		t.Errorf("maximize: %q, %q", l, last)
	}
	l, last = blocks(ran(t, "var 1..2: x; var 1..2: y; var 1..3: z :: output_var; constraint fzn_all_different_int([x, y, z]); solve satisfy;", "-a -n 1"))
	if last != unknown || len(l) > 0 {
		t.Errorf("all different, by one node: %q, %q", l, last)
	}
	l, last = blocks(ran(t, "var 1..2: x :: output_var; var 1..2: y; var 1..3: z :: output_var; constraint fzn_all_different_int([x, y, z]); solve satisfy;", "-a -n 100"))
	if last != equals || len(l) != 2 || strings.Count(l[0]+l[1], "z = 3;\n") != 2 {
		t.Errorf("all different: %q, %q", l, last)
	}
}

// Example 10: behind the blocks that were printed.
func TestUnknownBehindBlocks(t *testing.T) {
	const s = "var 1..9: x :: output_var; solve :: int_search([x], input_order, indomain_min, complete) satisfy;"
	full := ran(t, s, "-a -n 100")
	seen := 0
	for _, line := range []string{"-a -n 2", "-a -n 4", "-a -n 6", "-a -n 8"} {
		l, last := blocks(ran(t, s, line))
		if last != unknown || !strings.HasPrefix(full, strings.Join(l, "")) || len(l) < seen || len(l) > 8 {
			t.Error(line, l, last)
		}
		seen = len(l)
	}
	if seen == 0 {
		t.Error("no blocks")
	}
}

// P22.1: errors, with their parts and places, in their order.
func TestErrors(t *testing.T) {
	if solver.InText != 0 || solver.InOptions != 4 {
		t.Error("parts")
	}
	good, bad := api.Options{Nodes: 10}, api.Options{}
	many := api.Options{Nodes: 10, Draws: make([]int, api.MaxDraws+1)}
	const x = "var 1..3: x :: output_var; "
	for _, c := range []struct {
		s    string
		o    api.Options
		want string
	}{
		{"", good, "160 0 0"},
		{strings.Repeat(" ", api.MaxText+1), bad, "3 0 0"},
		{"solve satisfy; é", bad, "150 0 15"},
		{"solve satisfy", bad, "160 0 13"},
		{x + "var 1.5: y; solve satisfy;", bad, "173 0 31"},
		{x + x + "constraint foo(); solve minimize z;", bad, "172 1 1"},
		{x + "constraint int_le(x, 2); constraint foo(); solve minimize z;", bad, "173 2 1"},
		{"array [1..1] of int: a :: output_var = [1]; solve minimize z;", bad, "210 1 0"},
		{x + "solve minimize z;", bad, "171 3 0"},
		{x + "solve minimize 3;", bad, "170 3 0"},
		{x + "array [1..1] of int: a :: output_array([1..1]) = [1000001]; solve satisfy;", bad, "210 0 0"},
		{x + "array [1..1] of int: a :: output_array([1..1]) = [-1000000000]; solve satisfy;", good, "210 0 0"},
		{x + "array [1..1] of int: a :: output_array([" + strings.Repeat("1..1, ", 16) + "1..1]) = [1]; solve satisfy;", good, "210 0 0"},
		{x + "solve satisfy;", bad, "1 4 0"},
		{x + "solve satisfy;", many, "3 4 0"},
		{x + "solve satisfy;", api.Options{Nodes: api.MaxBudget + 1}, "1 4 0"},
		{x + "solve satisfy;", api.Options{Nodes: 1, Restart: 4, Scale: 1}, "1 4 0"},
		{x + "solve satisfy;", api.Options{Nodes: 1, Restart: api.RLuby}, "1 4 0"},
		{x + "solve satisfy;", api.Options{Nodes: 1, Lns: 101}, "1 4 0"},
		{x + "constraint int_lt(x, x); solve satisfy;", bad, "1 4 0"},
	} {
		if s := solver.Run(c.s, c.o); s != "=====ERROR===== "+c.want+"\n" {
			t.Errorf("Run(%.99q): %q, not %s", c.s, s, c.want)
		}
	}
	// what is at the edge is no error
	edge := x + "array [1..1] of int: a :: output_array([" + strings.Repeat("1..1, ", 15) + "1..1]) = [-1000000]; constraint int_eq(x, 2); solve satisfy;"
	if s := solver.Run(edge, api.Options{Nodes: 10, Scale: -5}); s != "x = 2;\na = array16d("+strings.Repeat("1..1, ", 16)+"[-1000000]);\n"+dashes+equals {
		t.Error(s)
	}
}

// P22.1: of all solutions a block that was printed already is left out; of a goal, or of one solution, none is.
func TestPrintedAlready(t *testing.T) {
	const x = "var 1..2: x :: output_var; var 1..3: y; "
	l, last := blocks(ran(t, x+"solve satisfy;", "-a -n 100"))
	if want := []string{"x = 1;\n" + dashes, "x = 2;\n" + dashes}; last != equals || !slices.Equal(sorted(l), want) {
		t.Error(l, last)
	}
	for _, line := range []string{"-a -n 100", "-n 100", "-a -n 100 -r luby 2 -g -l 50 -d 1,2"} {
		s := ran(t, x+"constraint int_eq(x, 1); solve :: int_search([y], input_order, indomain_min, complete) maximize y;", line)
		if want := strings.Repeat("x = 1;\n"+dashes, 3) + equals; s != want {
			t.Errorf("maximize: %q", s)
		}
	}
	if s := ran(t, "var 1..3: y; solve satisfy;", "-a -n 100"); s != dashes+equals {
		t.Errorf("no outputs: %q", s)
	}
	if s := ran(t, "var 1..3: y; solve :: int_search([y], input_order, indomain_max, complete) minimize y;", "-a -n 100"); s != strings.Repeat(dashes, 3)+equals {
		t.Errorf("no outputs, minimize: %q", s)
	}
	if s := ran(t, "solve satisfy;", "-a -n 1"); s != dashes+equals {
		t.Errorf("nothing at all: %q", s)
	}
	if s := ran(t, "constraint bool_eq(true, false); solve satisfy;", "-a -n 1"); s != unsat {
		t.Errorf("nothing at all, that can not be: %q", s)
	}
}

// check holds a run's text against what is so: P2, P3, P22.4, P22.5.
func check(t *testing.T, q api.Problem, o api.Options, all truth, text string) {
	t.Helper()
	if _, how, e, at := out.Stream(text, q.Outs); e != api.OK || how == out.Error {
		t.Fatal("no run's text", how, e, at, text)
	}
	l, last := blocks(text)
	for i, s := range l {
		if all.goals[s] == nil {
			t.Fatal("no solution:", s)
		}
		if q.Goal == api.Satisfy && (slices.Contains(l[:i], s) || !o.All && i > 0) {
			t.Fatal("too many:", text)
		}
	}
	if q.Goal != api.Satisfy {
		goesOn(t, q, all, l)
	}
	switch {
	case last == unsat && len(all.order) > 0:
		t.Fatal("there is a solution:", all.order[0])
	case last == equals && len(l) == 0:
		t.Fatal("complete without a block")
	case last == equals && q.Goal == api.Satisfy && o.All && !slices.Equal(sorted(l), sorted(all.order)):
		t.Fatal("not all of them:", text, all.order)
	case last == equals && q.Goal != api.Satisfy && !slices.Contains(all.goals[l[len(l)-1]], all.best):
		t.Fatal("not the best one:", text, all.best)
	}
}

// goesOn holds that blocks may be of solutions each of which is better than the one ahead: of each the one that is least better is taken.
func goesOn(t *testing.T, q api.Problem, all truth, l []string) {
	t.Helper()
	now, first := int64(0), true
	for _, s := range l {
		next, found := int64(0), false
		for _, n := range all.goals[s] {
			if (first || post.Better(q.Goal, n, now)) && (!found || post.Better(q.Goal, next, n)) {
				next, found = n, true
			}
		}
		if !found {
			t.Fatal("a block that is not better:", l)
		}
		now, first = next, false
	}
}

// P22.4, P22.5, P22.6, P22.8 (P2 to P5, P7): programs of all constraints, drawn by chance, by options drawn by chance.
func TestDrawnPrograms(t *testing.T) {
	g := newGame(4)
	ends := map[string]int{}
	for range 1500 {
		s := g.program()
		q := posted(t, s)
		all := truthOf(t, q)
		p, _, _ := parse.Parse(s)
		again, e := parse.Print(p)
		if e != api.OK {
			t.Fatal("Print", e, s)
		}
		for range 3 {
			o := g.options()
			text := solver.Run(s, o)
			check(t, q, o, all, text)
			if solver.Run(again, o) != text || solver.Run(s, o) != text {
				t.Fatal("not the same run:", s)
			}
			_, last := blocks(text)
			ends[last]++
		}
		o := g.options()
		o.Lns = 0
		enough, e := solver.Enough(s, o)
		if e != api.OK || enough < 1 || enough > api.MaxBudget || o.Restart == api.RConstant && enough != api.MaxBudget {
			t.Fatal("Enough", enough, e, s)
		}
		if enough == api.MaxBudget {
			continue
		}
		o.Nodes = enough
		text := solver.Run(s, o)
		check(t, q, o, all, text)
		if _, last := blocks(text); last == unknown && !all.beyond {
			t.Fatal("Enough is not enough:", enough, s)
		}
	}
	for _, last := range []string{equals, unsat, unknown} {
		if ends[last] < 300 {
			t.Error("too few ends of a kind", ends)
		}
	}
}

// P8: with input_order and indomain_min over all variables the solutions come in their order.
func TestInOrder(t *testing.T) {
	const decls = "var 1..3: x :: output_var; var {1, 3, 4}: y :: output_var; var bool: b :: output_var; "
	const solve = "solve :: seq_search([int_search([x, y], input_order, indomain_min, complete), bool_search([b], input_order, indomain_min, complete)]) satisfy;"
	for _, c := range []string{"", "constraint int_lt(x, y); ", "constraint int_eq_reif(x, y, b); ", "constraint int_lin_eq([1, 1], [x, y], 5); ", "constraint int_ne(x, 2); constraint int_le_imp(y, x, b); "} {
		s := decls + c + solve
		l, last := blocks(ran(t, s, "-a -n 1000"))
		if all := truthOf(t, posted(t, s)); last != equals || !slices.Equal(l, all.order) {
			t.Error(c, l, last)
		}
	}
}

// What is handed in is not changed.
func TestHandedIn(t *testing.T) {
	o := api.Options{Nodes: 50, Restart: api.RLuby, Scale: 2, Lns: 50, Draws: []int{3, 1, 4, -1, 5}}
	solver.Run("var 1..9: x :: output_var; solve :: int_search([x], random, indomain_random, complete) maximize x;", o)
	solver.Enough("var 1..9: x; solve satisfy;", o)
	solver.Text(o)
	if !slices.Equal(o.Draws, []int{3, 1, 4, -1, 5}) {
		t.Error(o.Draws)
	}
}

// P22.2: the errors of Enough, in their order; Nodes play no part.
func TestEnough(t *testing.T) {
	bad := api.Options{Lns: -1}
	for _, c := range []struct {
		s string
		o api.Options
		e api.Errno
	}{
		{"solve satisfy", bad, api.ErrParse},
		{strings.Repeat(" ", api.MaxText+1), bad, api.ErrSize},
		{"constraint foo(); solve satisfy;", bad, api.ErrMore},
		{"solve minimize z;", bad, api.ErrName},
		{"solve satisfy;", bad, api.ErrArg},
		{"solve satisfy;", api.Options{Draws: make([]int, api.MaxDraws+1)}, api.ErrSize},
	} {
		if n, e := solver.Enough(c.s, c.o); n != 0 || e != c.e {
			t.Error(c.s, n, e)
		}
	}
	for _, nodes := range []int64{0, -5, 7, api.MaxBudget + 1} {
		if n, e := solver.Enough("var 1..3: x; solve satisfy;", api.Options{Nodes: nodes}); n < 3 || n > 200000 || e != api.OK {
			t.Error(nodes, n, e)
		}
	}
	if n, e := solver.Enough("var 1..3: x; solve satisfy;", api.Options{Restart: api.RConstant, Scale: 1}); n != api.MaxBudget || e != api.OK {
		t.Error(n, e)
	}
	// outputs that can not be printed play no part
	if n, e := solver.Enough("array [1..1] of int: a :: output_array([1..1]) = [1000001]; solve satisfy;", api.Options{}); n < 1 || e != api.OK {
		t.Error(n, e)
	}
}
