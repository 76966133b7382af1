package post_test

import (
	"fmt"
	"math/rand/v2"
	"slices"
	"strings"
	"testing"

	"jigsaw/api"
	"jigsaw/parse"
	"jigsaw/post"
	"jigsaw/prune"
)

// drawn is a program's text drawn by chance: most of them are right.
func drawn(rnd *rand.Rand) string {
	pick := func(l ...string) string { return l[rnd.IntN(len(l))] }
	var s strings.Builder
	s.WriteString(pick("int: n = 2; ", "1..3: n = 3; ", "int: n :: note = -1; "))
	s.WriteString("var 1..3: x" + pick("", " :: output_var", " :: note(1) :: output_var :: output_array") + "; ")
	s.WriteString("var bool: b" + pick("", " :: output_var", " :: output_var = true") + "; ")
	s.WriteString("var set of {1, 2, 5}: s" + pick("", " :: output_var", " = {1, 5}", " = {7}") + "; ")
	s.WriteString("var {1, 3}: y" + pick("", " = x", " = 3", " = 4") + "; ")
	s.WriteString("array [1..2] of var int: a" + pick("", " :: output_array([1..2])", " :: output_array([0..0, 3..4])", " :: output_array([0..2])") + " = [x, " + pick("y", "n", "4", "x") + "]; ")
	s.WriteString("array [1..2] of set of int: c" + pick("", " :: output_array([1..2])") + " = [{}, 1..2]; ")
	for range rnd.IntN(5) {
		s.WriteString("constraint " + pick("int_le(x, y)", "int_lt(x, n)", "int_lin_le([1, 2], a, 7)", "set_in(x, s)", "int_eq_reif(x, y, b)", "set_card(s, a[2])", "fzn_all_different_int(a)", "int_pow(10, 20, x)", "array_set_element(x, c, s)", "int_le(z, 1)") + pick("", "", " :: note") + "; ")
	}
	s.WriteString("solve")
	for range rnd.IntN(3) {
		s.WriteString(pick(" :: int_search(a, first_fail, indomain_max, complete)", " :: seq_search([int_search([x, 4], smallest, indomain_split, complete), bool_search([b], input_order, indomain, complete)])", " :: note", " :: set_search([s], random, indomain_random, complete)", " :: int_search([b], input_order, indomain, complete)"))
	}
	s.WriteString(pick(" satisfy;", " minimize x;", " maximize a[2];", " minimize b;"))
	return s.String()
}

// P18.4: what Post answers is right, and its outputs' and phases' variables are its. P18.6, P7: posting what Print wrote and Parse read is the same. Nothing that was handed in is changed.
func TestDrawnPrograms(t *testing.T) {
	rnd := rand.New(rand.NewPCG(18, 4))
	right := 0
	for range 5000 {
		s := drawn(rnd)
		p := read(t, s)
		q, e, part, at := post.Post(p)
		if !parse.Same(p, read(t, s)) {
			t.Fatal("what was handed in is changed:", s)
		}
		written, f := parse.Print(p)
		if f != api.OK {
			t.Fatal("Print", f)
		}
		q2, e2, part2, at2 := post.Post(read(t, written))
		if e2 != e || part2 != part || at2 != at || !post.Same(q, q2) {
			t.Fatal("not the same when it is written and read again:", s)
		}
		if e != api.OK {
			continue
		}
		right++
		if post.Right(q) != api.OK {
			t.Fatal("not right:", s, post.Right(q))
		}
		for _, x := range q.Phases {
			if slices.ContainsFunc(x.Vars, func(v int) bool { return v < 0 || v >= len(q.Vars) }) {
				t.Fatal("phases", s)
			}
		}
		for _, o := range q.Outs {
			if slices.ContainsFunc(o.L, func(x api.Term) bool { return x.Var < -1 || x.Var >= len(q.Vars) }) {
				t.Fatal("outputs", s)
			}
		}
	}
	if right < 500 {
		t.Error("too few right ones:", right)
	}
}

// P18.5: an assignment solves a problem just if it lies in the domains and all constraints, in any order, hold.
func TestSolvesInAnyOrder(t *testing.T) {
	rnd := rand.New(rand.NewPCG(18, 5))
	const s = "var 1..3: x; var 1..3: y; var set of 1..2: s; constraint int_le(x, y); constraint set_in(x, s); constraint int_ne(y, 2); constraint set_card(s, x); solve satisfy;"
	p := posted(t, s)
	solutions := 0
	for x := range int64(5) {
		for y := range int64(5) {
			for _, l := range [][]int64{{}, {1}, {2}, {1, 2}, {3}, {1, 3}} {
				v := []api.Val{{N: x}, {N: y}, {Set: true, S: l}}
				want := 1 <= x && x <= 3 && 1 <= y && y <= 3 && !slices.Contains(l, 3)
				for _, c := range p.Cons {
					ok, e := prune.Holds(c, v)
					want = want && ok && e == api.OK
				}
				for range 5 {
					rnd.Shuffle(len(p.Cons), func(i, j int) { p.Cons[i], p.Cons[j] = p.Cons[j], p.Cons[i] })
					if ok, e := post.Solves(p, v); ok != want || e != api.OK {
						t.Fatal("Solves", v, ok, e)
					}
				}
				if want {
					solutions++
				}
			}
		}
	}
	if solutions != 3 {
		t.Error("solutions:", solutions)
	}
}

// What was handed in is not kept, and no two lists of an answer share memory.
func TestHandedIn(t *testing.T) {
	const s = "set of int: e = {1, 2}; var {1, 3}: x :: output_var; array [1..2] of set of int: c :: output_array([1..2]) = [{4, 3}, e]; array [1..2] of set of int: d :: output_array([1..2]) = [{4, 3}, e]; var set of {1, 5}: v = {5}; " +
		"constraint array_set_element(x, c, v); constraint array_set_element(x, c, v); solve :: int_search([x], input_order, indomain, complete) :: int_search([x], input_order, indomain, complete) minimize x;"
	p := read(t, s)
	q, e, _, _ := post.Post(p)
	if e != api.OK {
		t.Fatal("Post", e)
	}
	want := told(q)
	for i := range p.Decls {
		for j := range p.Decls[i].Type.Dom {
			p.Decls[i].Type.Dom[j] = r(99, 99)
		}
		spoil(p.Decls[i].Value.L)
		spoil(p.Decls[i].Anns)
	}
	for i := range p.Cons {
		spoil(p.Cons[i].Args)
	}
	spoil(p.Anns)
	if told(q) != want {
		t.Error("what was handed in is kept")
	}
	for _, change := range []func(q *api.Problem){
		func(q *api.Problem) { q.Vars[0].R[0].Lo = 0 },
		func(q *api.Problem) { q.Vars[1].Up[0] = 0 },
		func(q *api.Problem) { q.Cons[0].Args[1].L[0].C.S[0] = 0 },
		func(q *api.Problem) { q.Cons[1].Args[1].L[0].C.S[0] = 0 },
		func(q *api.Problem) { q.Cons[2].Args[1].L[1].C.S[0] = 0 },
		func(q *api.Problem) { q.Outs[1].L[1].C.S[0] = 0 },
		func(q *api.Problem) { q.Outs[1].Dims[0].Lo = 0 },
		func(q *api.Problem) { q.Outs[2].L[0].C.S[0] = 0 },
		func(q *api.Problem) { q.Phases[0].Vars[0] = 1 },
	} {
		one, again := posted(t, s), posted(t, s)
		change(&one)
		if n := differences(told(one), told(again)); n != 1 {
			t.Error("a change is seen at so many places:", n, told(one))
		}
	}
}

// differences is at how many words two texts are not the same.
func differences(a, b string) int {
	x, y := strings.Fields(a), strings.Fields(b)
	n := 0
	for i := range x {
		if i >= len(y) || x[i] != y[i] {
			n++
		}
	}
	return n
}

func spoil(l []api.Expr) {
	for i := range l {
		spoil(l[i].L)
		l[i] = api.Expr{Kind: 99}
	}
}

// P1: whatever is handed in, each call ends and answers.
func TestAnything(t *testing.T) {
	rnd := rand.New(rand.NewPCG(18, 1))
	numbers := []int64{0, 1, -1, 2, 3, 9, maxBig, maxBig + 1, -1 << 63, 1<<63 - 1}
	names := []string{"", "x", "y", "output_var", "output_array", "int_search", "seq_search", "first_fail", "indomain", "int_le", "fzn_regular"}
	n := func() int64 { return numbers[rnd.IntN(len(numbers))] }
	small := func() int { return int(n()) }
	s := func() string { return names[rnd.IntN(len(names))] }
	var expr func(deep int) api.Expr
	exprs := func(deep int) []api.Expr {
		var out []api.Expr
		for range rnd.IntN(5) {
			out = append(out, expr(deep))
		}
		return out
	}
	expr = func(deep int) api.Expr {
		x := api.Expr{Kind: rnd.IntN(12) - 1, N: n(), M: n(), Name: s()}
		if deep > 0 {
			x.L = exprs(deep - 1)
		}
		return x
	}
	values := func() []int64 { return []int64{n(), n()}[:rnd.IntN(3)] }
	spans := func() []api.Range { return []api.Range{r(n(), n()), r(n(), n())}[:rnd.IntN(3)] }
	val := func() api.Val { return api.Val{Set: rnd.IntN(2) == 0, N: n(), S: values()} }
	for range 3000 {
		p := api.Program{Anns: exprs(3), Goal: small(), Of: expr(1)}
		for range rnd.IntN(4) {
			p.Decls = append(p.Decls, api.Decl{Name: s(), Anns: exprs(2), Has: rnd.IntN(2) == 0, Value: expr(2),
				Type: api.Type{Var: rnd.IntN(2) == 0, Array: rnd.IntN(2) == 0, Size: n(), Kind: rnd.IntN(5), Dom: spans(), Full: rnd.IntN(2) == 0}})
		}
		for range rnd.IntN(3) {
			p.Cons = append(p.Cons, api.Item{Name: s(), Args: exprs(2), Anns: exprs(1)})
		}
		q, e, part, _ := post.Post(p)
		if e == api.OK && (part != 0 || post.Right(q) != api.OK) || e != api.OK && (part < 1 || part > 3) {
			t.Fatal("Post", e, part)
		}
		q = api.Problem{Goal: small(), Of: small()}
		for range rnd.IntN(4) {
			q.Vars = append(q.Vars, api.Dom{Set: rnd.IntN(2) == 0, R: spans(), Lo: values(), Up: values(), Least: small(), Most: small()})
			q.Cons = append(q.Cons, api.Con{Name: s(), Args: []api.Arg{{Array: rnd.IntN(2) == 0, L: []api.Term{{Var: small(), C: val()}}}}})
			q.Phases = append(q.Phases, api.Phase{Vars: []int{small()}, Select: small(), Value: small()})
			q.Outs = append(q.Outs, api.Out{Name: s(), Dims: spans(), L: []api.Term{{Var: small(), C: val()}}, Kind: small()})
		}
		v := []api.Val{val(), val(), val()}[:rnd.IntN(4)]
		if ok, f := post.Solves(q, v); ok && f != api.OK || post.Right(q) != api.OK && f != post.Right(q) {
			t.Fatal("Solves", ok, f)
		}
		if !post.Same(q, post.Copy(q)) {
			t.Fatal("Copy", fmt.Sprint(q))
		}
		post.Value(q, v)
		post.Better(small(), n(), n())
	}
}
