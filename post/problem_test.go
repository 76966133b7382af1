package post_test

import (
	"fmt"
	"math"
	"slices"
	"testing"

	"jigsaw/api"
	"jigsaw/cons"
	"jigsaw/post"
)

const sample = "var 1..3: x :: output_var; var bool: b; var set of {1, 5}: s; array [1..3] of var int: a :: output_array([1..1, 0..2]) = [x, 2, x]; array [1..1] of set of int: c :: output_array([1..1]) = [{7, 9}]; " +
	"constraint int_le(x, 2); constraint set_in(x, s); solve :: int_search([x], first_fail, indomain_max, complete) :: set_search([s], input_order, indomain, complete) maximize x;"

// wrongs is what may be wrong with a problem, in the order of P18.2, each with its error.
func wrongs() []struct {
	name string
	e    api.Errno
	do   func(p *api.Problem)
} {
	return []struct {
		name string
		e    api.Errno
		do   func(p *api.Problem)
	}{
		{"too many variables", api.ErrFull, func(p *api.Problem) { p.Vars = append(p.Vars, make([]api.Dom, api.MaxVars)...) }},
		{"too many constraints", api.ErrFull, func(p *api.Problem) { p.Cons = append(p.Cons, make([]api.Con, api.MaxCons)...) }},
		{"ranges that are not right", api.ErrDom, func(p *api.Problem) { p.Vars[1].R = []api.Range{r(2, 1)} }},
		{"a number's domain with a set's", api.ErrDom, func(p *api.Problem) { p.Vars[0].Most = 1 }},
		{"a set's domain with ranges", api.ErrDom, func(p *api.Problem) { p.Vars[2].R = []api.Range{r(1, 1)} }},
		{"a set's domain that is too small", api.ErrDom, func(p *api.Problem) { p.Vars[2].Most = 3 }},
		{"no such constraint", api.ErrKind, func(p *api.Problem) { p.Cons[0].Name = "foo" }},
		{"a variable of a constraint", api.ErrCon, func(p *api.Problem) { p.Cons[1].Args[0].L[0].Var = 3 }},
		{"a set where a number is wanted", api.ErrCon, func(p *api.Problem) { p.Cons[1].Args[0].L[0].Var = 2 }},
		{"a long array", api.ErrSize, func(p *api.Problem) {
			p.Cons[1] = api.Con{Name: "fzn_all_different_int", Args: []api.Arg{{Array: true, L: make([]api.Term, api.MaxArray+1)}}}
		}},
		{"no goal", api.ErrArg, func(p *api.Problem) { p.Goal = 3 }},
		{"a goal below", api.ErrArg, func(p *api.Problem) { p.Goal = -1 }},
		{"a set as a goal", api.ErrArg, func(p *api.Problem) { p.Of = 2 }},
		{"a goal's variable below", api.ErrArg, func(p *api.Problem) { p.Of = -1 }},
		{"a goal's variable beyond", api.ErrArg, func(p *api.Problem) { p.Goal, p.Of = api.Minimize, 3 }},
		{"satisfy of another than 0", api.ErrArg, func(p *api.Problem) { p.Goal, p.Of = api.Satisfy, 1 }},
		{"a phase's variable beyond", api.ErrArg, func(p *api.Problem) { p.Phases[1].Vars = append(p.Phases[1].Vars, 3) }},
		{"a phase's variable below", api.ErrArg, func(p *api.Problem) { p.Phases[0].Vars[0] = -1 }},
		{"a selector beyond", api.ErrArg, func(p *api.Problem) { p.Phases[0].Select = api.VRandom + 1 }},
		{"a selector below", api.ErrArg, func(p *api.Problem) { p.Phases[0].Select = api.VInput - 1 }},
		{"a value's selector beyond", api.ErrArg, func(p *api.Problem) { p.Phases[0].Value = api.WRandom + 1 }},
		{"a value's selector below", api.ErrArg, func(p *api.Problem) { p.Phases[0].Value = api.WMin - 1 }},
		{"an output's variable beyond", api.ErrOut, func(p *api.Problem) { p.Outs[1].L[2].Var = 3 }},
		{"an output's variable below", api.ErrOut, func(p *api.Problem) { p.Outs[2].L[0].Var = -2 }},
	}
}

// P18.2: Right of problems with each fault, and of several of them: the one named first.
func TestRight(t *testing.T) {
	if e := post.Right(posted(t, sample)); e != api.OK {
		t.Fatal("Right", e)
	}
	if e := post.Right(api.Problem{}); e != api.OK {
		t.Error("Right of nothing", e)
	}
	l := wrongs()
	v := []api.Val{{N: 1}, {N: 1}, {Set: true, S: list(1)}}
	for i, a := range l {
		p := posted(t, sample)
		a.do(&p)
		if e := post.Right(p); e != a.e {
			t.Errorf("%s: %d; want %d", a.name, e, a.e)
		}
		if ok, e := post.Solves(p, v); ok || e != a.e {
			t.Errorf("Solves: %s: %v, %d; want %d", a.name, ok, e, a.e)
		}
		if ok, e := post.Solves(p, nil); ok || e != a.e {
			t.Errorf("Solves of too few: %s: %v, %d; want %d", a.name, ok, e, a.e)
		}
		for _, b := range l[i+1:] {
			if a.e == api.ErrKind || a.e == api.ErrCon || a.e == api.ErrSize || a.e == b.e {
				continue // constraints that are at fault are told apart by which comes first
			}
			p := posted(t, sample)
			b.do(&p)
			a.do(&p)
			if e := post.Right(p); e != a.e {
				t.Errorf("%s, and %s: %d; want %d", a.name, b.name, e, a.e)
			}
		}
	}
}

// P18.2: what is right, at the edges.
func TestRightEdges(t *testing.T) {
	for _, c := range []struct {
		name string
		do   func(p *api.Problem)
	}{
		{"as many variables as there may be", func(p *api.Problem) { p.Vars = append(p.Vars, make([]api.Dom, api.MaxVars-3)...) }},
		{"as many constraints as there may be", func(p *api.Problem) {
			for len(p.Cons) < api.MaxCons {
				p.Cons = append(p.Cons, p.Cons[0])
			}
		}},
		{"an empty domain", func(p *api.Problem) { p.Vars[0] = api.Dom{} }},
		{"the empty domain of a set", func(p *api.Problem) { p.Vars[2] = api.Dom{Set: true, Least: 1} }},
		{"minimize", func(p *api.Problem) { p.Goal, p.Of = api.Minimize, 1 }},
		{"satisfy", func(p *api.Problem) { p.Goal = api.Satisfy }},
		{"the last selectors", func(p *api.Problem) {
			p.Phases[0] = api.Phase{Vars: []int{2, 2, 0}, Select: api.VRandom, Value: api.WRandom}
		}},
		{"the first selectors", func(p *api.Problem) { p.Phases[0] = api.Phase{Select: api.VInput, Value: api.WMin} }},
		{"an output of another size than its dimensions", func(p *api.Problem) { p.Outs[1].Dims, p.Outs[1].Kind = nil, 9 }},
		{"an output of the last variable", func(p *api.Problem) { p.Outs[0].L[0].Var = 2 }},
	} {
		p := posted(t, sample)
		c.do(&p)
		if e := post.Right(p); e != api.OK {
			t.Errorf("%s: %d", c.name, e)
		}
	}
}

// P18.2: a constraint at fault is told by the first one.
func TestRightOfSeveralConstraints(t *testing.T) {
	kind, con := cons.Copy(posted(t, sample).Cons[0]), cons.Copy(posted(t, sample).Cons[0])
	kind.Name, con.Args = "foo", nil
	p := posted(t, sample)
	p.Cons = append(p.Cons, kind, con)
	if e := post.Right(p); e != api.ErrKind {
		t.Error("Right", e)
	}
	slices.Reverse(p.Cons)
	if e := post.Right(p); e != api.ErrCon {
		t.Error("Right", e)
	}
}

// P18.2: Solves of too few and too many values, of values that are beyond their domain, of constraints that do not hold.
func TestSolves(t *testing.T) {
	p := posted(t, sample)
	set := func(l ...int64) api.Val { return api.Val{Set: true, S: l} }
	n := func(n int64) api.Val { return api.Val{N: n} }
	for _, c := range []struct {
		v  []api.Val
		ok bool
		e  api.Errno
	}{
		{[]api.Val{n(1), n(0), set(1)}, true, api.OK},
		{[]api.Val{n(1), n(1), set(1, 5)}, true, api.OK},
		{[]api.Val{n(2), n(1), set(1, 5)}, false, api.OK},
		{[]api.Val{n(3), n(1), set(1, 5)}, false, api.OK},
		{[]api.Val{n(1), n(1), set(5)}, false, api.OK},
		{[]api.Val{n(1), n(1), set()}, false, api.OK},
		{[]api.Val{n(0), n(1), set(1)}, false, api.OK},
		{[]api.Val{n(1), n(2), set(1)}, false, api.OK},
		{[]api.Val{n(1), n(1), set(1, 2)}, false, api.OK},
		{[]api.Val{n(1), n(1), set(1, 1)}, false, api.OK},
		{[]api.Val{n(1), n(1), set(5, 1)}, false, api.OK},
		{[]api.Val{n(1), n(1), {Set: true, N: 1, S: list(1)}}, false, api.OK},
		{[]api.Val{{N: 1, S: list(1)}, n(1), set(1)}, false, api.OK},
		{[]api.Val{n(1), n(1), n(1)}, false, api.OK},
		{[]api.Val{set(1), n(1), set(1)}, false, api.OK},
		{[]api.Val{n(1), n(1)}, false, api.ErrArg},
		{[]api.Val{n(1), n(1), set(1), n(1)}, false, api.ErrArg},
		{nil, false, api.ErrArg},
	} {
		if ok, e := post.Solves(p, c.v); ok != c.ok || e != c.e {
			t.Errorf("Solves(%v) = %v, %d; want %v, %d", c.v, ok, e, c.ok, c.e)
		}
	}
	if ok, e := post.Solves(api.Problem{}, nil); !ok || e != api.OK {
		t.Error("Solves of nothing", ok, e)
	}
	if ok, e := post.Solves(posted(t, "constraint int_lt(2, 1); solve satisfy;"), nil); ok || e != api.OK {
		t.Error("Solves of no variables", ok, e)
	}
}

// P18.2: the error is that of the first constraint that does not hold; of a value that is not in its domain there is none.
func TestSolvesOver(t *testing.T) {
	const over, broken = "constraint int_pow(10, 20, x); ", "constraint int_lt(x, x); "
	for _, c := range []struct {
		s string
		v int64
		e api.Errno
	}{
		{over, 1, api.ErrOver}, {over + broken, 1, api.ErrOver}, {broken + over, 1, api.OK}, {over, 4, api.OK},
	} {
		p := posted(t, "var 1..3: x; "+c.s+"solve satisfy;")
		if ok, e := post.Solves(p, []api.Val{{N: c.v}}); ok || e != c.e {
			t.Errorf("%s of %d: %v, %d; want %d", c.s, c.v, ok, e, c.e)
		}
	}
}

// P18.3: the value that the goal is of.
func TestValue(t *testing.T) {
	v := []api.Val{{N: 7}, {Set: true, S: list(1)}, {N: -maxBig}}
	for _, c := range []struct {
		goal, of int
		want     int64
		e        api.Errno
	}{
		{api.Minimize, 0, 7, api.OK}, {api.Maximize, 0, 7, api.OK}, {api.Minimize, 2, -maxBig, api.OK}, {api.Maximize, 2, -maxBig, api.OK},
		{api.Minimize, 1, 0, api.ErrArg}, {api.Maximize, 1, 0, api.ErrArg}, {api.Minimize, 3, 0, api.ErrArg}, {api.Maximize, -1, 0, api.ErrArg},
		{api.Satisfy, 0, 0, api.ErrArg}, {-1, 0, 0, api.ErrArg}, {3, 0, 0, api.ErrArg}, {api.Minimize, math.MinInt, 0, api.ErrArg}, {api.Minimize, math.MaxInt, 0, api.ErrArg},
	} {
		if n, e := post.Value(api.Problem{Goal: c.goal, Of: c.of}, v); n != c.want || e != c.e {
			t.Errorf("Value of %d of %d: %d, %d; want %d, %d", c.goal, c.of, n, e, c.want, c.e)
		}
	}
	if n, e := post.Value(api.Problem{Goal: api.Minimize}, nil); n != 0 || e != api.ErrArg {
		t.Error("Value of no values", n, e)
	}
}

// P18.3: what is better.
func TestBetter(t *testing.T) {
	numbers := []int64{math.MinInt64, -1, 0, 1, math.MaxInt64}
	for i, a := range numbers {
		for j, b := range numbers {
			for goal := -2; goal < 5; goal++ {
				want := goal == api.Minimize && i < j || goal == api.Maximize && i > j
				if post.Better(goal, a, b) != want {
					t.Error("Better", goal, a, b)
				}
			}
		}
	}
}

// changes is a change of each field of a problem.
func changes() []func(p *api.Problem) {
	return []func(p *api.Problem){
		func(p *api.Problem) { p.Goal = 1 },
		func(p *api.Problem) { p.Of = 1 },
		func(p *api.Problem) { p.Vars = p.Vars[:2] },
		func(p *api.Problem) { p.Vars[0].Set = true },
		func(p *api.Problem) { p.Vars[0].R[0].Lo = 0 },
		func(p *api.Problem) { p.Vars[0].R[0].Hi = 9 },
		func(p *api.Problem) { p.Vars[0].R = nil },
		func(p *api.Problem) { p.Vars[2].Lo = list(1) },
		func(p *api.Problem) { p.Vars[2].Up[0] = 0 },
		func(p *api.Problem) { p.Vars[2].Least = 1 },
		func(p *api.Problem) { p.Vars[2].Most = 1 },
		func(p *api.Problem) { p.Cons = p.Cons[:1] },
		func(p *api.Problem) { p.Cons[1].Name = "set_card" },
		func(p *api.Problem) { p.Cons[1].Args[0].L[0].Var = 1 },
		func(p *api.Problem) { p.Cons[0].Args[1].L[0].C.N = 1 },
		func(p *api.Problem) { p.Phases = p.Phases[:1] },
		func(p *api.Problem) { p.Phases[0].Vars[0] = 1 },
		func(p *api.Problem) { p.Phases[0].Select = 0 },
		func(p *api.Problem) { p.Phases[1].Value = 5 },
		func(p *api.Problem) { p.Outs = p.Outs[:2] },
		func(p *api.Problem) { p.Outs[0].Name = "y" },
		func(p *api.Problem) { p.Outs[0].Kind = 1 },
		func(p *api.Problem) { p.Outs[0].One = false },
		func(p *api.Problem) { p.Outs[1].Dims[1].Lo = 5 },
		func(p *api.Problem) { p.Outs[1].Dims[1].Hi = 5 },
		func(p *api.Problem) { p.Outs[1].L[0].Var = 1 },
		func(p *api.Problem) { p.Outs[1].L[1].C.N = 1 },
		func(p *api.Problem) { p.Outs[2].L[0].C.S[1] = 8 },
		func(p *api.Problem) { p.Outs[2].L[0].C.Set = false },
		func(p *api.Problem) { p.Outs[2].L = nil },
	}
}

// P18.2: Same field by field; a copy is Same, and goes its own way.
func TestSameAndCopy(t *testing.T) {
	p := posted(t, sample)
	if !post.Same(p, posted(t, sample)) || !post.Same(api.Problem{}, api.Problem{}) || post.Same(p, api.Problem{}) {
		t.Error("Same")
	}
	text := fmt.Sprintf("%+v", p)
	for i, change := range changes() {
		q := post.Copy(p)
		if !post.Same(p, q) || !post.Same(q, p) || fmt.Sprintf("%+v", q) != text {
			t.Fatal("Copy", i, q)
		}
		change(&q)
		if post.Same(p, q) || post.Same(q, p) {
			t.Error("Same of a change", i)
		}
		if fmt.Sprintf("%+v", p) != text {
			t.Fatal("a copy shares memory with the first one", i)
		}
	}
	none := api.Problem{Vars: []api.Dom{{R: []api.Range{}, Lo: list(), Up: list()}}, Cons: []api.Con{}, Phases: []api.Phase{{Vars: []int{}}}, Outs: []api.Out{{Dims: []api.Range{}, L: []api.Term{}}}}
	if !post.Same(none, api.Problem{Vars: make([]api.Dom, 1), Phases: make([]api.Phase, 1), Outs: make([]api.Out, 1)}) || !post.Same(post.Copy(none), none) {
		t.Error("lists of nothing are the same")
	}
	wrong := api.Problem{Vars: []api.Dom{{R: []api.Range{r(2, 1)}, Lo: list(3, 1), Least: -1}}, Cons: []api.Con{{Name: "foo", Args: []api.Arg{{L: []api.Term{{Var: -7, C: api.Val{Set: true, N: 3, S: list(2, 1)}}}}}}}, Goal: -1, Of: -1, Phases: []api.Phase{{Vars: []int{-1}, Select: -1, Value: 9}}, Outs: []api.Out{{Name: "", Dims: []api.Range{r(2, 1)}, L: []api.Term{{Var: -7, C: api.Val{Set: true, N: 3, S: list(2, 1)}}}, Kind: 9, One: true}}}
	if q := post.Copy(wrong); !post.Same(q, wrong) || fmt.Sprintf("%+v", q) != fmt.Sprintf("%+v", wrong) {
		t.Error("Copy of what can not be")
	}
}
