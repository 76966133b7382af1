package check_test

import (
	"fmt"
	"math/rand/v2"
	"testing"

	"jigsaw/api"
	"jigsaw/check"
	"jigsaw/cons"
	"jigsaw/kinds"
	"jigsaw/parse"
)

// some is declarations drawn by chance, most of them right.
func some(rnd *rand.Rand, n int) []api.Decl {
	var out []api.Decl
	thing := func(kind int) api.Expr {
		names := []string{"d0", "d1", "d2", "d3", "d4", "d5", "d6", "d7"}
		s := names[rnd.IntN(len(names))]
		switch k := rnd.IntN(12); {
		case k < 3:
			return name(s)
		case k < 4:
			return at(s, rnd.Int64N(4))
		case kind == api.YBool:
			return truth(rnd.Int64N(2))
		case kind == api.YInt:
			return number(rnd.Int64N(5))
		case k < 8:
			return span(rnd.Int64N(5), rnd.Int64N(5))
		}
		return set(rnd.Int64N(5), rnd.Int64N(5))
	}
	for i := range n {
		d := api.Decl{Name: fmt.Sprint("d", i), Type: api.Type{Kind: 1 + rnd.IntN(3), Var: rnd.IntN(2) == 0, Array: rnd.IntN(3) == 0}}
		t := &d.Type
		if t.Kind != api.YBool && !(t.Var && t.Array) && rnd.IntN(4) != 0 {
			t.Full, t.Dom = true, ranges(r(0, 2), r(4, 5))
		}
		d.Has = !t.Var || t.Array || rnd.IntN(3) == 0
		if d.Has && t.Array {
			t.Size = rnd.Int64N(4)
			d.Value = array()
			for range t.Size {
				d.Value.L = append(d.Value.L, thing(t.Kind))
			}
		} else if d.Has {
			d.Value = thing(t.Kind)
		}
		out = append(out, d)
	}
	return out
}

// sound asks whether all that is answered of names is right.
func sound(t *testing.T, v *check.Env) {
	t.Helper()
	var sets []bool
	for _, d := range v.Vars() {
		sets = append(sets, d.Set)
		if tight := kinds.Both(d, d); !kinds.Right(d) || domain(tight) != domain(d) {
			t.Fatal("not right, or not tight:", d)
		}
	}
	for _, c := range v.Extra() {
		if cons.Right(c, sets) != api.OK {
			t.Fatal("not right:", cons.Text(c))
		}
	}
	for _, s := range v.Names() {
		for _, x := range []api.Item{{Name: "int_le", Args: []api.Expr{name(s), number(1)}}, {Name: "set_card", Args: []api.Expr{name(s), at(s, 1)}}, {Name: "fzn_all_different_int", Args: []api.Expr{name(s)}}, {Name: "bool_clause", Args: []api.Expr{name(s), array()}}, {Name: "fzn_maximum_int", Args: []api.Expr{at(s, 1), name(s)}}} {
			if c, e := v.Con(x); e == api.OK && cons.Right(c, sets) != api.OK {
				t.Fatal("not right:", cons.Text(c))
			}
		}
	}
}

// P17.5, P17.6: what is answered is right; one declaration more behind changes nothing of what the others are.
func TestOneMoreBehind(t *testing.T) {
	rnd := rand.New(rand.NewPCG(17, 6))
	right := 0
	for range 4000 {
		l := some(rnd, 8)
		before := ""
		for n := range l {
			v, e, at := check.New(l[:n+1])
			if e != api.OK {
				for more := n + 1; more <= len(l); more++ {
					if v, f, again := check.New(l[:more]); v != nil || f != e || again != at || at != n {
						t.Fatal("another fault:", l, f, again, e, at)
					}
				}
				break
			}
			sound(t, v)
			if got := toldFirst(v, n); got != before {
				t.Fatalf("%+v\nit was   %s\nit became %s", l[n], before, got)
			}
			before = toldFirst(v, n+1)
			right += n
		}
	}
	if right < 10000 {
		t.Error("too few right ones:", right)
	}
}

// toldFirst is what the first n names are, with their variables and constraints.
func toldFirst(v *check.Env, n int) string {
	out := ""
	vars := 0
	for _, s := range v.Names()[:n] {
		out += s + ": " + known(v, s) + "; "
		if x, e := v.Term(s); e == api.OK && x.Var >= 0 {
			vars = x.Var + 1
		}
	}
	for _, d := range v.Vars()[:vars] {
		out += domain(d) + "; "
	}
	for _, c := range v.Extra() {
		if c.Args[0].L[0].Var < vars {
			out += cons.Text(c) + "; "
		}
	}
	return out
}

// Nothing that is handed in is changed or kept.
func TestHandedIn(t *testing.T) {
	const s = "{1, 3}: n = 3; set of int: c = {2, 1}; var {1, 5}: x; var set of {1, 5}: v = {5}; array [1..2] of var set of int: a = [v, {3, 1}]; var 1..5: y = x;"
	p := read(t, s+" constraint set_in(x, {4, 2}); constraint int_lin_eq([1, 2], [x, y], 3);")
	v, _, _ := check.New(p.Decls)
	want := told(v)
	var texts []string
	for _, x := range p.Cons {
		c, e := v.Con(x)
		if e != api.OK {
			t.Fatal("Con", e)
		}
		texts = append(texts, cons.Text(c))
	}
	if !parse.Same(p, read(t, s+" constraint set_in(x, {4, 2}); constraint int_lin_eq([1, 2], [x, y], 3);")) {
		t.Error("what was handed in is changed")
	}
	for i := range p.Decls {
		for j := range p.Decls[i].Type.Dom {
			p.Decls[i].Type.Dom[j] = r(99, 99)
		}
		spoilExprs(p.Decls[i].Value.L)
		p.Decls[i] = api.Decl{}
	}
	if got := told(v); got != want {
		t.Errorf("what was handed in is kept:\n%s\n%s", got, want)
	}
	for i, x := range p.Cons {
		if c, e := v.Con(x); e != api.OK || cons.Text(c) != texts[i] {
			t.Error("Con", cons.Text(c), e)
		}
	}
}

func spoilExprs(l []api.Expr) {
	for i := range l {
		spoilExprs(l[i].L)
		l[i] = api.Expr{Kind: 99}
	}
}

// What is answered shares memory with nothing: writing into it, or appending to it, is seen by no later answer.
func TestAnswersAreNew(t *testing.T) {
	v := env(t, "set of int: c = {2, 1}; var {1, 5}: x; var set of {1, 5}: v = {5}; array [1..3] of var set of int: a = [v, {3, 1}, c]; var 1..5: y = x; set of int: d = c;")
	want := told(v)
	arg := func() api.Arg {
		x, e := v.Arg(name("a"), "aS")
		if e != api.OK {
			t.Fatal("Arg", e)
		}
		return x
	}
	con := func() api.Con {
		c, e := v.Con(api.Item{Name: "set_union", Args: []api.Expr{name("c"), name("d"), at("a", 3)}})
		if e != api.OK {
			t.Fatal("Con", e)
		}
		return c
	}
	wantArg, wantCon := terms(arg().L...), cons.Text(con())
	for _, d := range v.Vars() {
		for i := range d.R {
			d.R[i] = r(99, 99)
		}
		for i := range d.Up {
			d.Up[i] = 99
		}
	}
	_ = append(v.Vars()[:0], api.Dom{})
	for _, c := range v.Extra() {
		spoilCon(c)
	}
	_ = append(v.Extra()[:0], api.Con{})
	_ = append(v.Names()[:0], "spoilt")
	for _, s := range v.Names() {
		x, _ := v.Term(s)
		spoilTerms([]api.Term{x})
		l, _ := v.Array(s)
		spoilTerms(l)
	}
	spoilTerms(arg().L)
	c := con()
	c.Args[0].L[0].C.S[0] = 99
	if c.Args[1].L[0].C.S[0] == 99 || c.Args[2].L[0].C.S[0] == 99 {
		t.Error("two lists of one answer share memory")
	}
	spoilCon(c)
	if got := told(v); got != want {
		t.Errorf("it was %s\nit is  %s", want, got)
	}
	if terms(arg().L...) != wantArg || cons.Text(con()) != wantCon {
		t.Error("Arg, Con share memory with what is kept")
	}
}

func spoilCon(c api.Con) {
	for i := range c.Args {
		spoilTerms(c.Args[i].L)
		c.Args[i] = api.Arg{}
	}
}

func spoilTerms(l []api.Term) {
	for i := range l {
		for j := range l[i].C.S {
			l[i].C.S[j] = 99
		}
		l[i] = api.Term{Var: 99}
	}
}

// P1: whatever is handed in, each call ends and answers; with an error there is nothing else.
func TestAnything(t *testing.T) {
	rnd := rand.New(rand.NewPCG(17, 1))
	numbers := []int64{0, 1, -1, 2, 3, maxBig + 1, maxCoef + 1, -1 << 63, 1<<63 - 1}
	n := func() int64 { return numbers[rnd.IntN(len(numbers))] }
	pick := func(l ...string) string { return l[rnd.IntN(len(l))] }
	var expr func(deep int) api.Expr
	expr = func(deep int) api.Expr {
		x := api.Expr{Kind: rnd.IntN(12) - 1, N: n(), M: n(), Name: pick("", "n", "xs", "v", "new", "\xff")}
		for range rnd.IntN(4*deep + 1) {
			x.L = append(x.L, expr(deep-1))
		}
		return x
	}
	first := read(t, ahead).Decls
	for range 20000 {
		d := api.Decl{Name: pick("", "new", "n", "\xff"), Has: rnd.IntN(3) > 0, Value: expr(2), Type: api.Type{Var: rnd.IntN(2) == 0, Array: rnd.IntN(2) == 0, Size: n(), Kind: rnd.IntN(5), Full: rnd.IntN(2) == 0}}
		for range rnd.IntN(3) {
			d.Type.Dom = append(d.Type.Dom, r(n(), n()))
		}
		v, e, at := check.New(append(first[:len(first):len(first)], d))
		if (v == nil) != (e != api.OK) || e == api.OK && at != 0 {
			t.Fatal("New", d, e, at)
		}
		if v == nil {
			v, _, _ = check.New(first)
		}
		sound(t, v)
		if a, e := v.Arg(expr(2), pick("i", "I", "aI", "as", "aS", "ab", "x")); e != api.OK && (a.Array || a.L != nil) {
			t.Fatal("Arg", a, e)
		}
		if c, e := v.Con(api.Item{Name: pick("", "int_le", "set_card", "bool_clause"), Args: []api.Expr{expr(2), expr(2)}}); e != api.OK && (c.Name != "" || c.Args != nil) {
			t.Fatal("Con", c, e)
		}
	}
}
