package solver_test

import (
	"fmt"
	"iter"
	"math/rand/v2"
	"slices"
	"strings"
	"testing"

	"jigsaw/api"
	"jigsaw/cons"
	"jigsaw/dom"
	"jigsaw/out"
	"jigsaw/parse"
	"jigsaw/post"
	"jigsaw/prune"
	"jigsaw/sets"
	"jigsaw/solver"
)

const (
	dashes  = "----------\n"
	equals  = "==========\n"
	unsat   = "=====UNSATISFIABLE=====\n"
	unknown = "=====UNKNOWN=====\n"
)

// options is those of a line.
func options(t testing.TB, line string) api.Options {
	t.Helper()
	o, e := solver.Options(line)
	if e != api.OK {
		t.Fatal("Options", line, e)
	}
	return o
}

// ran is the text of a run by a line of options.
func ran(t testing.TB, program, line string) string {
	t.Helper()
	return solver.Run(program, options(t, line))
}

// posted is the problem of a program that has one.
func posted(t testing.TB, s string) api.Problem {
	t.Helper()
	p, e, at := parse.Parse(s)
	if e != api.OK {
		t.Fatal("Parse", e, at, s)
	}
	q, e, part, at := post.Post(p)
	if e != api.OK {
		t.Fatal("Post", e, part, at, s)
	}
	return q
}

// blocks is the blocks of a run's text, each with its ten -, and the last line.
func blocks(s string) ([]string, string) {
	l := strings.SplitAfter(s, dashes)
	return l[:len(l)-1], l[len(l)-1]
}

// sorted is texts in another list, rising.
func sorted(l []string) []string {
	l = slices.Clone(l)
	slices.Sort(l)
	return l
}

// values is all values of a domain that can be.
func values(d api.Dom) []api.Val {
	var l []api.Val
	if d.Set {
		for s := range sets.Each(d) {
			l = append(l, api.Val{Set: true, S: s})
		}
		return l
	}
	for n := range dom.Each(d.R) {
		l = append(l, api.Val{N: n})
	}
	return l
}

// assignments is all of them within domains; the values of the variables rise, the first one's slowest.
func assignments(d []api.Dom) iter.Seq[[]api.Val] {
	return func(yield func([]api.Val) bool) {
		v := make([]api.Val, len(d))
		var from func(at int) bool
		from = func(at int) bool {
			if at == len(d) {
				return yield(v)
			}
			for _, x := range values(d[at]) {
				v[at] = x
				if !from(at + 1) {
					return false
				}
			}
			return true
		}
		from(0)
	}
}

// truth is what is so of a problem, found by trying all assignments.
type truth struct {
	goals  map[string][]int64 // of each block what the goal's variable is in the solutions that it stands for (of Satisfy 0)
	order  []string           // the blocks, by the order of the solutions, each once
	best   int64              // of the goal, if there are solutions
	beyond bool               // can it not be said of some constraint and assignment?
}

func truthOf(t testing.TB, q api.Problem) truth {
	all := truth{goals: map[string][]int64{}}
	for v := range assignments(q.Vars) {
		for _, c := range q.Cons {
			_, e := prune.Holds(c, v)
			all.beyond = all.beyond || e != api.OK
		}
		if ok, _ := post.Solves(q, v); !ok {
			continue
		}
		text, e := out.Block(q.Outs, v)
		if e != api.OK {
			t.Fatal("Block", e)
		}
		n, _ := post.Value(q, v)
		if len(all.order) == 0 || post.Better(q.Goal, n, all.best) {
			all.best = n
		}
		if all.goals[text] == nil {
			all.order = append(all.order, text)
		}
		all.goals[text] = append(all.goals[text], n)
	}
	return all
}

// game draws programs and options.
type game struct {
	*rand.Rand
	names []string
}

func newGame(seed uint64) game {
	return game{rand.New(rand.NewPCG(22, seed)), slices.Collect(cons.Names())}
}

func (g game) pick(l ...string) string { return l[g.IntN(len(l))] }

// term is the text of a thing that may stand at a letter of a form.
func (g game) term(letter string) string {
	n := fmt.Sprint(g.IntN(6) - 1)
	switch letter {
	case "I":
		return g.pick("x", "x", "y", "y", "a[1]", "a[2]", "m[1]", "n", n)
	case "i":
		return g.pick("n", "m[1]", "m[2]", n)
	case "B":
		return g.pick("b", "b", "p[1]", "p[2]", "u", "true", "false")
	case "b":
		return g.pick("u", "true", "false")
	case "S":
		return g.pick("s", "s", "q[1]", "q[2]", "k", "{}", "1..3", "{3, 1}")
	}
	return g.pick("k", "{}", "1..3", "{3, 1}", "2..1")
}

func (g game) array(letter string, size int) string {
	named := map[string]string{"I": "a", "i": "m", "B": "p", "S": "q"}[letter]
	if size == 2 && named != "" && g.IntN(3) == 0 {
		return named
	}
	var l []string
	for range size {
		l = append(l, g.term(letter))
	}
	return "[" + strings.Join(l, ", ") + "]"
}

// con is the text of a constraint; often it can be.
func (g game) con() string {
	name := g.names[g.IntN(len(g.names))]
	if g.IntN(20) == 0 {
		name = "int_pow"
	}
	var l []string
	size, alike := g.IntN(4), g.IntN(3) > 0
	for _, part := range strings.Split(cons.Form(name), ",") {
		letter, array := strings.CutPrefix(part, "a")
		if !alike {
			size = g.IntN(4)
		}
		if array {
			l = append(l, g.array(letter, size))
		} else {
			l = append(l, g.term(letter))
		}
	}
	switch {
	case name == "fzn_table_int":
		l = []string{"[x, y]", g.array("i", 2*g.IntN(6))}
	case name == "fzn_regular":
		l = []string{g.array("I", g.IntN(4)), "1", "2", g.pick("[0, 1]", "[1, 0]", "[1, 1]"), "1", "{1}"}
	case name == "int_pow" && g.IntN(3) == 0:
		l[0] = "1000000"
	}
	return "constraint " + name + "(" + strings.Join(l, ", ") + "); "
}

// decls is the text of declarations: x, y are whole numbers, b a truth, s a set, and there are constants and arrays; some are printed.
func (g game) decls() string {
	printed := func() string { return g.pick("", " :: output_var", " :: note :: output_var") }
	array := func() string {
		return g.pick("", "", " :: output_array([1..2])", " :: output_array([0..0, 3..4])", " :: output_array([2..3, 1..1, 7..7])")
	}
	numbers := func() string { return g.pick("1..3", "0..2", "{1, 4}", "{0, 2, 3}", "-1..1", "2..2", "1..0") }
	if g.IntN(8) > 0 {
		numbers = func() string { return g.pick("1..3", "0..2", "{1, 4}", "{0, 2, 3}", "-1..1", "2..2") }
	}
	return "int: n = " + g.pick("2", "0", "-1") + "; bool: u = " + g.pick("true", "false") + "; set of int: k = " + g.pick("{1, 3}", "1..2", "{}") + "; " +
		"array [1..2] of int: m" + array() + " = [" + g.pick("1", "n") + ", 3]; " +
		"var " + numbers() + ": x" + printed() + "; " +
		"var " + numbers() + ": y" + printed() + g.pick("", "", "", " = x", " = n") + "; " +
		"var bool: b" + printed() + g.pick("", "", "", " = u") + "; " +
		"var set of " + g.pick("1..2", "{1, 3}", "1..3", "{2}", "{}") + ": s" + printed() + "; " +
		"array [1..2] of var int: a" + array() + " = [" + g.pick("x", "y", "4") + ", " + g.pick("x", "y", "n") + "]; " +
		"array [1..2] of var bool: p" + array() + " = [b, " + g.pick("true", "u", "b") + "]; " +
		"array [1..2] of var set of int: q" + array() + " = [" + g.pick("{2}", "k", "s") + ", s]; "
}

func (g game) solve() string {
	s := "solve"
	chooses := func() string {
		return g.pick("input_order", "first_fail", "anti_first_fail", "smallest", "largest", "random") + ", " +
			g.pick("indomain_min", "indomain", "indomain_max", "indomain_median", "indomain_split", "indomain_reverse_split", "indomain_random") + ", complete)"
	}
	for range g.IntN(3) {
		s += " :: " + g.pick("int_search([x, y], "+chooses(), "bool_search(p, "+chooses(), "set_search([s], "+chooses(), "note", "seq_search([int_search(a, "+chooses()+", set_search(q, "+chooses()+"])")
	}
	return s + g.pick(" satisfy;", " satisfy;", " minimize x;", " maximize y;", " minimize y;", " maximize x;")
}

// program is the text of a program that has a problem.
func (g game) program() string {
	for {
		s := g.decls()
		for range g.IntN(4) {
			s += g.con()
		}
		s += g.solve()
		p, e, _ := parse.Parse(s)
		if e != api.OK {
			panic(s)
		}
		if _, e, _, _ := post.Post(p); e == api.OK {
			return s
		}
	}
}

// options is some that can be, with a budget that is seldom too small.
func (g game) options() api.Options {
	o := api.Options{All: g.IntN(2) == 0, Nodes: 1 + g.Int64N(3000), Restart: g.IntN(4), Nogoods: g.IntN(2) == 0}
	if g.IntN(4) == 0 {
		o.Nodes = 1 + g.Int64N(12)
	}
	if o.Restart != api.RNone {
		o.Scale = 1 + g.Int64N(9)
	}
	if g.IntN(2) == 0 {
		o.Lns = 1 + g.IntN(100)
	}
	for range g.IntN(20) {
		o.Draws = append(o.Draws, g.IntN(200)-100)
	}
	return o
}
