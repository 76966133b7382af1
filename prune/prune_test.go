package prune_test

import (
	"fmt"
	"testing"

	"jigsaw/api"
	"jigsaw/arith"
	"jigsaw/cons"
	"jigsaw/count"
	"jigsaw/linear"
	"jigsaw/logic"
	"jigsaw/prune"
	"jigsaw/sched"
	"jigsaw/seq"
	"jigsaw/setcon"
)

// family is what a family's package answers.
type family struct {
	holds func(api.Con, []api.Val) (bool, api.Errno)
	prune func(api.Con, []api.Dom) ([]api.Dom, int, api.Errno)
}

func families() map[string]family {
	return map[string]family{
		"linear": {linear.Holds, linear.Prune}, "arith": {arith.Holds, arith.Prune}, "logic": {logic.Holds, logic.Prune}, "setcon": {setcon.Holds, setcon.Prune},
		"count": {count.Holds, count.Prune}, "seq": {seq.Holds, seq.Prune}, "sched": {sched.Holds, sched.Prune},
	}
}

// asFamily asks that Holds and Prune answer what the package of the constraint's family does.
func asFamily(t *testing.T, c api.Con, v []api.Val, d []api.Dom) {
	t.Helper()
	f := families()[cons.Family(c.Name)]
	wantOk, wantErr := f.holds(c, v)
	if ok, e := prune.Holds(c, v); ok != wantOk || e != wantErr {
		t.Fatal("Holds", cons.Text(c), v, ok, e)
	}
	want, wantWhat, wantErr := f.prune(c, d)
	if got, what, e := prune.Prune(c, d); what != wantWhat || e != wantErr || !sameDoms(got, want) {
		t.Fatal("Prune", cons.Text(c), told(d), told(got), what, e)
	}
}

// P14.1: constraints of each family, with errors, too.
func TestFamilies(t *testing.T) {
	g := newGame(1)
	seen := map[string]int{}
	for range 20000 {
		c, d := g.con(), g.doms()
		v := []api.Val{{N: g.Int64N(5)}, {N: g.Int64N(5)}, {N: g.Int64N(2)}, {Set: true, S: g.set()}, {Set: true, S: g.set()}}
		seen[c.Name]++
		switch g.IntN(8) {
		case 0:
			c.Args = c.Args[1:]
		case 1:
			v[g.IntN(5)].N = maxBig + 1
			d[g.IntN(5)].Least = -1
		case 2:
			v, d = v[:3], d[:3]
		}
		asFamily(t, c, v, d)
	}
	for name := range cons.Names() {
		if seen[name] == 0 {
			t.Error("not asked for:", name)
		}
	}
}

// P14.1: one of each family, as it is meant.
func TestOneOfEach(t *testing.T) {
	v := []api.Val{{N: 1}, {N: 2}, {Set: true, S: list(1, 2)}}
	for text, want := range map[string]bool{
		"int_lt(x0, x1)": true, "int_lt(x1, x0)": false, "int_plus(x0, x0, x1)": true, "int_plus(x0, x1, x1)": false, "bool_eq(x0, 1)": true, "bool_eq(x0, x1)": false, "set_card(x2, x1)": true, "set_card(x2, x0)": false,
		"fzn_all_different_int([x0, x1])": true, "fzn_all_different_int([x0, 1])": false, "fzn_increasing_int([x0, x1])": true, "fzn_increasing_int([x1, x0])": false, "fzn_circuit([x1, x0])": true, "fzn_circuit([x0, x1])": false,
	} {
		c := parsed(t, text)[0]
		if ok, e := prune.Holds(c, v); ok != want || e != api.OK {
			t.Error("Holds", text, ok, e)
		}
		d := []api.Dom{num(r(1, 1)), num(r(2, 2)), set(list(1, 2), list(1, 2), 2, 2)}
		got, what, e := prune.Prune(c, d)
		if e != api.OK || want && (what != api.Same || !sameDoms(got, d)) || !want && (what != api.Fail || len(got) > 0) {
			t.Error("Prune", text, told(got), what, e)
		}
	}
}

// P14.1: there is no such constraint.
func TestNoSuch(t *testing.T) {
	for _, name := range []string{"", "x", "int", "fzn_", "linear", "INT_EQ", "int_eq ", "fzn_circuit_reif", "\xff"} {
		for _, c := range []api.Con{{Name: name}, {Name: name, Args: []api.Arg{cons.One(cons.Var(0)), cons.One(cons.Var(7))}}} {
			if ok, e := prune.Holds(c, []api.Val{{N: maxBig + 1}}); ok || e != api.ErrKind {
				t.Error("Holds", name, ok, e)
			}
			if got, what, e := prune.Prune(c, []api.Dom{num(r(2, 1))}); got != nil || what != 0 || e != api.ErrKind {
				t.Error("Prune", name, got, what, e)
			}
			if n, e := prune.Check([]api.Con{c}, nil); n != 0 || e != api.ErrKind {
				t.Error("Check", name, n, e)
			}
			if got, what, e := prune.Fix([]api.Con{c}, nil); got != nil || what != 0 || e != api.ErrKind {
				t.Error("Fix", name, got, what, e)
			}
			if g, e := prune.New([]api.Con{c}, stored(t, nil)); g != nil || e != api.ErrKind {
				t.Error("New", name, e)
			}
		}
	}
}

// P14.1: the first constraint that does not hold, or of which there is an error.
func TestCheck(t *testing.T) {
	v := []api.Val{{N: 1}, {N: 2}, {N: 1000000}, {N: maxBig + 1}, {Set: true, S: list(1)}}
	for _, s := range []struct {
		texts []string
		want  int
		e     api.Errno
	}{
		{nil, -1, api.OK},
		{[]string{"int_lt(x0, x1)"}, -1, api.OK},
		{[]string{"int_lt(x0, x1)", "set_in(x0, x4)", "fzn_circuit([x1, x0])"}, -1, api.OK},
		{[]string{"int_lt(x1, x0)"}, 0, api.OK},
		{[]string{"int_lt(x0, x1)", "int_eq(x0, x1)", "int_eq(x0, x1)"}, 1, api.OK},
		{[]string{"int_lt(x0, x1)", "int_lt(x0, x1)", "set_in(x1, x4)"}, 2, api.OK},
		{[]string{"int_lt(x0, x5)"}, 0, api.ErrCon},
		{[]string{"int_lt(x0, x1)", "int_lt(x0, x4)"}, 1, api.ErrCon},
		{[]string{"int_lt(x0, x1)", "int_lt(x0, x3)"}, 1, api.ErrArg},
		{[]string{"int_lt(x0, x3)", "int_eq(x0, x1)"}, 0, api.ErrArg}, // the error is ahead
		{[]string{"int_eq(x0, x1)", "int_lt(x0, x3)"}, 0, api.OK},     // and behind
		{[]string{"int_lt(x0, x1)", "int_pow(x2, 9, x0)", "int_eq(x0, x1)"}, 1, api.ErrOver},
		{[]string{"int_lt(x0, x1)", "int_eq(x0, x1)", "int_pow(x2, 9, x0)"}, 1, api.OK},
	} {
		if n, e := prune.Check(parsed(t, s.texts...), v); n != s.want || e != s.e {
			t.Error("Check", s.texts, n, e)
		}
	}
	all := make([]api.Con, api.MaxCons+1) // Check has no limit of its own
	for i := range all {
		all[i] = parsed(t, "int_lt(x0, x1)")[0]
	}
	if n, e := prune.Check(all, v); n != -1 || e != api.OK {
		t.Error("Check of many", n, e)
	}
	all[api.MaxCons].Args = nil
	if n, e := prune.Check(all, v); n != api.MaxCons || e != api.ErrCon {
		t.Error("Check of many", n, e)
	}
}

// P14.1: Check against Holds, one by one.
func TestCheckAgainstHolds(t *testing.T) {
	g := newGame(2)
	seen := map[string]int{}
	for range 20000 {
		l := g.cons(g.IntN(4))
		v := []api.Val{{N: g.Int64N(5)}, {N: g.Int64N(5)}, {N: g.Int64N(2)}, {Set: true, S: g.set()}, {Set: true, S: g.set()}}
		want, wantErr := -1, api.OK
		for i, c := range l {
			if ok, e := prune.Holds(c, v); !ok {
				want, wantErr = i, e
				break
			}
		}
		before := fmt.Sprint(l, v)
		if n, e := prune.Check(l, v); n != want || e != wantErr || fmt.Sprint(l, v) != before {
			t.Fatal("Check", toldCons(l), v, n, e)
		}
		seen[fmt.Sprint(want, wantErr)]++
	}
	if seen["-1 0"] == 0 || seen["1 0"] == 0 || seen["1 10"] == 0 {
		t.Error("not all were asked for:", seen)
	}
}
