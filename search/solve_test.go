package search_test

import (
	"fmt"
	"slices"
	"strings"
	"testing"

	"jigsaw/api"
	"jigsaw/post"
	"jigsaw/search"
)

// honest asks all that P20.2 says of a result, whatever the budget.
func honest(t *testing.T, p api.Problem, o api.Options, res api.Result, so truth) {
	t.Helper()
	fail := func(what string) {
		t.Helper()
		t.Fatalf("%s: %s, %+v: %v, complete %v, why %d, nodes %d; want %v", what, toldProblem(p), o, toldAll(res.Sols), res.Complete, res.Why, res.Nodes, so)
	}
	l := toldAll(res.Sols)
	for i, v := range res.Sols {
		if ok, e := post.Solves(p, v); !ok || e != api.OK {
			fail("no solution")
		}
		if slices.Contains(l[:i], l[i]) {
			fail("twice")
		}
		if p.Goal != api.Satisfy && i > 0 && !post.Better(p.Goal, v[p.Of].N, res.Sols[i-1][p.Of].N) {
			fail("not better")
		}
	}
	switch {
	case p.Goal == api.Satisfy && !o.All && len(l) > 1:
		fail("more than one")
	case res.Nodes < 1 || res.Nodes > o.Nodes:
		fail("nodes")
	case res.Why != api.OK && res.Why != api.ErrOver || res.Why != api.OK && (res.Complete || !so.beyond):
		fail("why")
	case !res.Complete && res.Why == api.OK && res.Nodes < o.Nodes:
		fail("given up ahead of time")
	case !res.Complete:
	case len(l) == 0 && len(so.sols) > 0:
		fail("complete without a solution")
	case p.Goal == api.Satisfy && o.All && !slices.Equal(sorted(l), sorted(so.sols)):
		fail("complete, but not all")
	case p.Goal != api.Satisfy && len(l) > 0 && res.Sols[len(l)-1][p.Of].N != so.best:
		fail("complete, but not the best one")
	}
}

// P20.2, P20.5: problems of all families and options drawn by chance, against all assignments.
func TestSolve(t *testing.T) {
	g := newGame(2)
	complete, over, open := 0, 0, 0
	for range 4000 {
		p := g.problem(600)
		so := truthOf(p)
		kept := toldProblem(p)
		for range 3 {
			o := g.options()
			draws := fmt.Sprint(o.Draws)
			res := solved(t, p, o)
			honest(t, p, o, res, so)
			if toldProblem(p) != kept || fmt.Sprint(o.Draws) != draws {
				t.Fatal("what was handed in is changed", kept, toldProblem(p))
			}
			switch {
			case res.Complete:
				complete++
			case res.Why != api.OK:
				over++
			default:
				open++
			}
		}
	}
	if complete < 5000 || over < 30 || open < 300 {
		t.Error("too few of a kind", complete, over, open)
	}
}

// P20.2: a smaller budget finds the first ones of what a greater one does, and no budget is overdrawn.
func TestBudgets(t *testing.T) {
	g := newGame(3)
	for range 150 {
		p := g.problem(100)
		so := truthOf(p)
		o := g.options()
		o.Nodes = 400
		whole := solved(t, p, o)
		all := toldAll(whole.Sols)
		for n := int64(1); n <= min(whole.Nodes+2, 60); n++ {
			o.Nodes = n
			part := solved(t, p, o)
			honest(t, p, o, part, so)
			l := toldAll(part.Sols)
			if len(l) > len(all) || !slices.Equal(l, all[:len(l)]) {
				t.Fatal("not the first ones", toldProblem(p), o, l, all)
			}
			if n >= whole.Nodes && whole.Nodes < 400 && (part.Complete != whole.Complete || part.Nodes != whole.Nodes || len(l) != len(all)) {
				t.Fatal("not the same with enough", toldProblem(p), o, part, whole)
			}
		}
	}
}

// P20.2: what is refused, a problem's errors first.
func TestRefused(t *testing.T) {
	good := problem(t, many(2, num(r(1, 3))), "int_lt(x0, x1)")
	wrong := good
	wrong.Goal = 7
	noDom := good
	noDom.Vars = []api.Dom{num(r(2, 1)), num(r(1, 2))}
	for _, c := range []struct {
		p api.Problem
		o api.Options
		e api.Errno
	}{
		{good, api.Options{}, api.ErrArg},
		{good, api.Options{Nodes: 10, Draws: make([]int, api.MaxDraws+1)}, api.ErrSize},
		{noDom, api.Options{Nodes: 10}, api.ErrDom},
		{noDom, api.Options{}, api.ErrDom},
		{wrong, api.Options{Nodes: 10, Draws: make([]int, api.MaxDraws+1)}, api.ErrArg},
		{problemOf(api.MaxVars + 1), api.Options{}, api.ErrFull},
	} {
		res, e := search.Solve(c.p, c.o)
		if e != c.e || res.Sols != nil || res.Complete || res.Why != api.OK || res.Nodes != 0 {
			t.Error("Solve", res, e, c.e)
		}
		if n, e := search.Enough(c.p, c.o); n != 0 || e != c.e {
			t.Error("Enough", n, e, c.e)
		}
		for v := range search.Each(c.p, c.o) {
			t.Error("Each", v)
		}
	}
}

func problemOf(n int) api.Problem {
	return api.Problem{Vars: many(n, num(r(0, 1)))}
}

// P20.2: problems that are decided at once, or have nothing.
func TestSmallest(t *testing.T) {
	for _, c := range []struct {
		p    api.Problem
		want string
	}{
		{api.Problem{}, "[] true"},
		{problem(t, nil, "int_lt(1, 2)"), "[] true"},
		{problem(t, nil, "int_lt(2, 1)"), "none true"},
		{problem(t, []api.Dom{num()}), "none true"},
		{problem(t, []api.Dom{num(r(3, 3)), set(nil, list(1, 2), 2, 2)}), "[3 {1,2}] true"},
		{problem(t, []api.Dom{num(r(3, 4)), set(nil, nil, 1, 0)}), "none true"},
		{problem(t, []api.Dom{num(r(1, 3)), num(r(1, 3))}, "int_lt(x0, x0)"), "none true"},
	} {
		for _, o := range []api.Options{{Nodes: 1}, {Nodes: 1, All: true}, {Nodes: api.MaxBudget, All: true, Restart: api.RConstant, Scale: 1, Nogoods: true, Lns: 50}} {
			res := solved(t, c.p, o)
			got := "none"
			if len(res.Sols) > 0 {
				got = "[" + strings.Join(toldAll(res.Sols), ", ") + "]"
			}
			if got = fmt.Sprint(got, " ", res.Complete); got != c.want || res.Nodes != 1 {
				t.Error("Solve", toldProblem(c.p), got, c.want, res.Nodes)
			}
		}
	}
}

// P20.2: a number that is beyond ends it, and what was found stays.
func TestBeyond(t *testing.T) {
	p := problem(t, []api.Dom{num(r(0, 1000)), num(r(0, 9))}, "int_pow(10, 20, x0)")
	for _, goal := range []int{api.Satisfy, api.Minimize, api.Maximize} {
		p.Goal = goal
		if res := solved(t, p, api.Options{Nodes: 100, All: true}); res.Complete || res.Why != api.ErrOver || len(res.Sols) != 0 || res.Nodes != 1 {
			t.Error("Solve", res)
		}
	}
	p = problem(t, []api.Dom{num(r(2, 1000000)), num(r(2, 3)), num(r(4, 4), r(8, 8))}, "int_pow(x1, 3, x2)", "int_pow(x0, 4, x2)")
	p.Phases = []api.Phase{{Vars: []int{0, 1}}}
	res := solved(t, p, api.Options{Nodes: api.MaxBudget, All: true})
	if res.Complete || res.Why != api.ErrOver {
		t.Error("Solve", res.Complete, res.Why, len(res.Sols))
	}
	q := problem(t, []api.Dom{num(r(1, 5)), num(r(1, 30)), num(r(-maxBig, maxBig))}, "int_pow(x0, x1, x2)")
	q.Phases = []api.Phase{{Vars: []int{0, 1, 2}}}
	res = solved(t, q, api.Options{Nodes: 1000000, All: true})
	if res.Complete || res.Why != api.ErrOver || len(res.Sols) == 0 {
		t.Error("Solve", res.Complete, res.Why, len(res.Sols))
	}
}

// P20.2, P20.5: queens, whatever the options; the first start alone may not do.
func TestQueens(t *testing.T) {
	p := queens(t, 6)
	for how := api.RNone; how <= api.RGeometric; how++ {
		for _, nogoods := range []bool{false, true} {
			for value := api.WMin; value <= api.WRandom; value++ {
				p.Phases = []api.Phase{{Vars: []int{0, 1, 2, 3, 4, 5}, Select: value, Value: value}}
				o := api.Options{All: true, Nodes: 20000, Restart: how, Scale: 20, Nogoods: nogoods, Draws: []int{5, 3, 9, 1, 1, 7}}
				res := solved(t, p, o)
				if complete := how != api.RConstant || nogoods; complete && (!res.Complete || len(res.Sols) != 4) || len(res.Sols) > 4 {
					t.Error("queens", o, value, len(res.Sols), res.Complete, res.Nodes)
				}
			}
		}
	}
}

// P20.2: starts that go as one ahead of them need not be gone through, be there ever so many.
func TestInVain(t *testing.T) {
	p := queens(t, 8)
	for _, o := range []api.Options{
		{Nodes: api.MaxBudget, Restart: api.RConstant, Scale: 1},
		{Nodes: api.MaxBudget, Restart: api.RConstant, Scale: 5, All: true},
		{Nodes: api.MaxBudget - 1, Restart: api.RConstant, Scale: 2, Nogoods: true, Draws: []int{1, 2, 3, 4, 5, 6}},
	} {
		res := solved(t, p, o)
		if res.Complete || res.Nodes != o.Nodes || res.Why != api.OK {
			t.Error("Solve", o, res.Complete, res.Nodes)
		}
	}
	p.Goal, p.Of = api.Maximize, 3
	o := api.Options{Nodes: api.MaxBudget, Restart: api.RConstant, Scale: 150, Lns: 40}
	if res := solved(t, p, o); len(res.Sols) == 0 || res.Sols[len(res.Sols)-1][3].N != 8 {
		t.Error("Solve", toldAll(res.Sols), res.Complete, res.Nodes)
	}
}

// P20.6, P8: all solutions in their order, by the phase's variables.
func TestInOrder(t *testing.T) {
	g := newGame(6)
	several := 0
	for range 1500 {
		p := g.problem(600)
		p.Vars[3] = num(r(0, 1))
		p.Cons = slices.DeleteFunc(p.Cons, func(c api.Con) bool { return strings.Contains(c.Name, "set") })
		p.Goal, p.Of = api.Satisfy, 0
		if post.Right(p) != api.OK {
			continue
		}
		order := g.Perm(4)
		p.Phases = []api.Phase{{Vars: order, Select: api.VInput, Value: api.WMin}}
		o := api.Options{All: true, Nodes: 1 + g.Int64N(2000), Nogoods: g.IntN(2) == 0, Draws: []int{3, 1, 4}}
		res := solved(t, p, o)
		for i := 1; i < len(res.Sols); i++ {
			a, b := res.Sols[i-1], res.Sols[i]
			at := slices.IndexFunc(order, func(v int) bool { return a[v].N != b[v].N })
			if at < 0 || a[order[at]].N > b[order[at]].N {
				t.Fatal("not in order", toldProblem(p), toldAll(res.Sols))
			}
			several++
		}
		if res.Complete {
			honest(t, p, o, res, truthOf(p))
		}
	}
	if several < 3000 {
		t.Error("too few", several)
	}
}

// A domain of so many ranges that no value within one can be taken out: it goes on all the same, and with Enough nodes it ends.
func TestAtTheLimitOfRanges(t *testing.T) {
	var d api.Dom
	for i := range int64(api.MaxRanges) {
		d.R = append(d.R, r(20*i, 20*i))
	}
	d.R[2047].Hi += 8 // the median is in the midst of these
	for _, value := range []int{api.WMedian, api.WRandom, api.WSplit} {
		p := problem(t, []api.Dom{d})
		p.Phases = []api.Phase{{Vars: []int{0}, Value: value}}
		o := api.Options{All: true, Nodes: 1, Draws: []int{2051, 2050, 2051, 2049, 2048}}
		o.Nodes, _ = search.Enough(p, o)
		if res := solved(t, p, o); !res.Complete || len(res.Sols) != api.MaxRanges+8 {
			t.Error("Solve", value, len(res.Sols), res.Complete, res.Nodes)
		}
	}
}

// One variable of all values: what is taken out of it, one by one, goes no deeper.
func TestManyValues(t *testing.T) {
	p := problem(t, []api.Dom{num(r(1, 20000)), num(r(0, 1))}, "int_lin_ne([1, 1], [x0, x1], 7)")
	res := solved(t, p, api.Options{All: true, Nodes: 80000})
	if !res.Complete || len(res.Sols) != 39998 {
		t.Error("Solve", len(res.Sols), res.Complete, res.Nodes)
	}
	sets := problem(t, many(100, set(nil, []int64{1, 2, 3, 4, 5, 6, 7, 8}, 0, 8)), "set_subset(x0, x99)")
	if res := solved(t, sets, api.Options{All: true, Nodes: 1000}); len(res.Sols) < 90 || res.Nodes != 1000 {
		t.Error("Solve", len(res.Sols), res.Nodes)
	}
}

// P20.2: Each is what Solve finds, one by one; it can be left, and gone through again, and takes what was handed in as it was.
func TestEach(t *testing.T) {
	g := newGame(7)
	for range 300 {
		p, o := g.problem(200), g.options()
		want := toldAll(solved(t, p, o).Sols)
		each := search.Each(p, o)
		for i := range p.Vars {
			clear(p.Vars[i].R)
			clear(p.Vars[i].Lo)
			clear(p.Vars[i].Up)
		}
		for _, c := range p.Cons {
			clear(c.Args)
		}
		clear(p.Phases)
		clear(o.Draws)
		for range 2 {
			var got []string
			for v := range each {
				got = append(got, told(v))
				for _, x := range v {
					clear(x.S)
				}
				clear(v)
			}
			if !slices.Equal(got, want) {
				t.Fatal("Each", got, want)
			}
		}
		n := 0
		for v := range each {
			if n++; n > 2 {
				break
			}
			if told(v) != want[n-1] {
				t.Fatal("Each, left", told(v), want)
			}
		}
	}
}

// Each does not wait for what comes behind.
func TestEachAtOnce(t *testing.T) {
	p := problemOf(api.MaxVars)
	n := 0
	for v := range search.Each(p, api.Options{All: true, Nodes: api.MaxBudget}) {
		if n++; n == 5 {
			break
		}
		if len(v) != api.MaxVars {
			t.Error("Each", len(v))
		}
	}
}

// Rule 4: no two lists of an answer share memory.
func TestSolutionsOfTheirOwn(t *testing.T) {
	p := problem(t, []api.Dom{set(list(1), list(1, 2, 3), 1, 3), set(list(4), list(4, 5), 1, 2)})
	res := solved(t, p, api.Options{All: true, Nodes: 100})
	want := toldAll(res.Sols)
	for i, v := range res.Sols {
		for _, x := range v {
			for k := range x.S {
				x.S[k] = 99
			}
			_ = append(x.S, 98)
		}
		for k, other := range res.Sols {
			if k > i && told(other) != want[k] {
				t.Fatal("shared memory", told(other), want[k])
			}
		}
	}
	if again := toldAll(solved(t, p, api.Options{All: true, Nodes: 100}).Sols); !slices.Equal(again, want) || len(want) != 8 {
		t.Error("Solve", again, want)
	}
}
