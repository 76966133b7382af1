package prune_test

import (
	"fmt"
	"math"
	"slices"
	"testing"

	"jigsaw/api"
	"jigsaw/cons"
	"jigsaw/kinds"
	"jigsaw/prune"
)

// fixes asks what becomes of domains: other ones, same, fail, or an error's number.
func fixes(t *testing.T, texts []string, from, want string) {
	t.Helper()
	d := doms(t, from)
	got, what, e := prune.Fix(parsed(t, texts...), d)
	answer := told(got)
	switch {
	case e != api.OK && len(got) == 0 && what == 0:
		answer = fmt.Sprint(e)
	case what == api.Fail && len(got) == 0:
		answer = "fail"
	case what == api.Same && sameDoms(got, d):
		answer = "same"
	case what != api.Less:
		t.Error(texts, from, "what became of it:", what)
	}
	if answer != want {
		t.Errorf("Fix %v, %s: %s; want %s", texts, from, answer, want)
	}
}

// P14.2, P14.5, and the chapter's examples.
func TestFix(t *testing.T) {
	for _, s := range []struct {
		texts      []string
		from, want string
	}{
		{[]string{"int_lt(x0, x1)", "int_lt(x1, x2)"}, "1..3 1..3 1..3", "1 2 3"}, {[]string{"int_ne(x0, x1)", "int_eq(x0, x1)"}, "1..2 1..2", "same"}, {[]string{"int_ne(x0, x1)", "int_eq(x0, x1)"}, "1 1", "fail"},
		{nil, "", "same"}, {nil, "1..2 5", "same"}, {nil, "1..2 {}", "fail"}, {[]string{"int_eq(x0, x0)"}, "1..2 {}", "fail"}, {[]string{"int_eq(x0, 3)"}, "{} 1..2", "fail"}, {[]string{"int_eq(1, 1)"}, "", "same"}, {[]string{"int_eq(1, 2)"}, "", "fail"}, {[]string{"int_eq(1, 2)"}, "1..2", "fail"},
		{[]string{"int_lt(x2, x3)", "int_lt(x1, x2)", "int_lt(x0, x1)"}, "1..9 1..9 1..9 1..9", "1..6 2..7 3..8 4..9"}, {[]string{"int_lt(x0, x1)", "int_lt(x1, x0)"}, "0..999 0..999", "fail"}, {[]string{"int_eq(x0, 3)", "int_lt(x0, x1)", "bool2int(x2, x3)", "int_le_reif(x1, 3, x2)"}, "0..9 0..9 0..1 -5..5", "3 4..9 0 0"},
		{[]string{"fzn_circuit([x0, x1, x2])", "int_ne(x0, 2)"}, "0..9 0..9 0..9", "3 1 2"}, {[]string{"fzn_all_different_int([x0, x1, x2])", "int_lt(x0, x1)"}, "1..2 1..2 1..3", "1 2 3"}, {[]string{"fzn_knapsack([2], [5], [x0], x1, x2)"}, "0..9 0..9 0..9", "0..1 0..2 0..5"}, {[]string{"fzn_bin_packing_load([x0, x1], [x2], [5])"}, "-9..9 1..9 0..5", "0 5 2"}, {[]string{"fzn_cumulative([0, x0, x1], [3, 3, 2], [1, 1, 1], 1)"}, "0..4 0..9", "3..4 6..9"},
		{[]string{"int_pow(10, 20, x0)"}, "0..9", "10"}, {[]string{"int_eq(x0, x1)", "int_pow(10, 20, x0)"}, "0..9 0..9", "10"}, {[]string{"int_eq(x0, 10)", "int_eq(x1, 20)", "int_pow(x0, x1, x2)"}, "0..99 0..99 0..9", "10"}, {[]string{"int_eq(x0, 2)", "int_pow(x0, x1, 8)"}, "0..99 0..9", "2 3"},
	} {
		fixes(t, s.texts, s.from, s.want)
	}
	got, what, e := prune.Fix(parsed(t, "set_subset(x0, x1)", "set_card(x1, x2)"), []api.Dom{set(list(1), list(1, 2), 1, 2), set(nil, list(1, 2, 3), 0, 3), num(r(1, 1))})
	if want := []api.Dom{set(list(1), list(1), 1, 1), set(list(1), list(1), 1, 1), num(r(1, 1))}; what != api.Less || e != api.OK || !sameDoms(got, want) {
		t.Error("Fix of sets", told(got), what, e)
	}
}

// P14.2: domains of sets of the constraints' variables are made tight, others stay as they are; that is no change.
func TestFixTight(t *testing.T) {
	loose := set(list(1), list(1, 2), 2, 2)
	tight := set(list(1, 2), list(1, 2), 2, 2)
	got, what, e := prune.Fix(parsed(t, "set_card(x0, 2)"), []api.Dom{loose, loose})
	if what != api.Same || e != api.OK || !sameDoms(got, []api.Dom{tight, loose}) {
		t.Error("Fix", told(got), what, e)
	}
}

// manyCons is so many constraints int_lt of each variable and the next.
func manyCons(n int) []api.Con {
	out := make([]api.Con, n)
	for i := range out {
		v := i % (api.MaxVars - 1)
		out[i] = api.Con{Name: "int_lt", Args: []api.Arg{cons.One(cons.Var(v)), cons.One(cons.Var(v + 1))}}
	}
	return out
}

func manyDoms(n int, d api.Dom) []api.Dom {
	return slices.Repeat([]api.Dom{d}, n)
}

// P14.2: the limits, and one more of each.
func TestFixLimits(t *testing.T) {
	wide := num(r(-maxBig, maxBig))
	got, what, e := prune.Fix(manyCons(api.MaxCons), manyDoms(api.MaxVars, wide))
	if what != api.Less || e != api.OK || len(got) != api.MaxVars {
		t.Fatal("Fix", what, e)
	}
	for i, d := range got {
		if want := num(r(-maxBig+int64(i), maxBig-int64(api.MaxVars-1-i))); !sameDom(d, want) {
			t.Fatal("Fix", i, told([]api.Dom{d}))
		}
	}
	if _, what, e := prune.Fix(manyCons(api.MaxCons), manyDoms(api.MaxVars, num(r(1, api.MaxVars-1)))); what != api.Fail || e != api.OK {
		t.Error("Fix, one value too few", what, e)
	}
	for _, s := range []struct {
		cons []api.Con
		doms []api.Dom
		want api.Errno
	}{
		{manyCons(api.MaxCons + 1), manyDoms(api.MaxVars, wide), api.ErrFull},
		{manyCons(api.MaxCons), manyDoms(api.MaxVars+1, wide), api.ErrFull},
		{nil, manyDoms(api.MaxVars+1, wide), api.ErrFull},
		{nil, manyDoms(api.MaxVars+1, num(r(2, 1))), api.ErrFull},
		{make([]api.Con, api.MaxCons+1), nil, api.ErrFull},
		{make([]api.Con, api.MaxCons), nil, api.ErrKind},
	} {
		if got, what, e := prune.Fix(s.cons, s.doms); got != nil || what != 0 || e != s.want {
			t.Error("Fix", len(s.cons), len(s.doms), what, e)
		}
	}
}

// P14.2: what is refused, in its order.
func TestFixRefused(t *testing.T) {
	ok, bad, empty := num(r(1, 9)), num(r(2, 1)), num()
	for _, s := range []struct {
		texts []string
		d     []api.Dom
		want  api.Errno
	}{
		{nil, []api.Dom{ok, bad}, api.ErrDom},
		{nil, []api.Dom{empty, bad}, api.ErrDom},
		{nil, []api.Dom{{Set: true, Least: 2}}, api.ErrDom},
		{nil, []api.Dom{set(nil, list(2, 1), 0, 1)}, api.ErrDom},
		{[]string{"int_eq(x0, 1)"}, []api.Dom{ok, bad}, api.ErrDom}, // of a variable that no constraint names
		{[]string{"int_eq(x0, x7)"}, []api.Dom{ok, bad}, api.ErrDom},
		{[]string{"int_eq(x0, x7)"}, []api.Dom{ok}, api.ErrCon},
		{[]string{"int_eq(x0, x7)"}, []api.Dom{empty}, api.ErrCon},
		{[]string{"int_eq(x0, 10)", "int_eq(x0, x1)"}, []api.Dom{ok}, api.ErrCon}, // of the second one, though the first one fails
		{[]string{"int_pow(10, 20, x0)", "set_card(x0, 1)"}, []api.Dom{ok}, api.ErrCon},
		{[]string{"int_eq(x0, 1)", "set_card(x0, 1)", "int_eq(x0, x7)"}, []api.Dom{ok}, api.ErrCon},
	} {
		l := parsed(t, s.texts...)
		if got, what, e := prune.Fix(l, s.d); got != nil || what != 0 || e != s.want {
			t.Error("Fix", s.texts, told(s.d), what, e)
		}
		if s.want == api.ErrCon {
			if g, e := prune.New(l, stored(t, s.d)); g != nil || e != s.want {
				t.Error("New", s.texts, e)
			}
		}
	}
	long := api.Con{Name: "fzn_circuit", Args: []api.Arg{cons.List(make([]api.Term, api.MaxArray+1)...)}}
	for _, l := range [][]api.Con{{long, {}}, {parsed(t, "int_eq(x0, 1)")[0], long}} {
		if got, what, e := prune.Fix(l, []api.Dom{ok}); got != nil || what != 0 || e != api.ErrSize {
			t.Error("Fix", what, e)
		}
	}
}

// named is the variables that some constraint names.
func named(l []api.Con) []int {
	var out []int
	for _, c := range l {
		out = append(out, cons.Vars(c)...)
	}
	return out
}

// solutions is all assignments within domains of which all constraints hold. Of variables that no constraint names one value stands for all.
func solutions(l []api.Con, d []api.Dom) [][]api.Val {
	var out [][]api.Val
	for v := range assignments(d, named(l)) {
		if n, _ := prune.Check(l, v); n < 0 {
			out = append(out, v)
		}
	}
	return out
}

// said: can it be said of all assignments within domains if each constraint holds?
func said(l []api.Con, d []api.Dom) bool {
	for _, c := range l {
		for v := range assignments(d, cons.Vars(c)) {
			if _, e := prune.Holds(c, v); e != api.OK {
				return false
			}
		}
	}
	return true
}

// calm: does no constraint's Prune change anything of domains, and do all constraints hold, if each variable has one value?
func calm(l []api.Con, d []api.Dom) bool {
	v := make([]api.Val, len(d))
	decided := true
	for n := range d {
		only, one := kinds.Only(d[n])
		v[n] = only
		decided = decided && one
	}
	for _, c := range l {
		if got, what, e := prune.Prune(c, d); what != api.Same || e != api.OK || !slices.EqualFunc(got, d, kinds.Same) {
			return false
		}
		if ok, e := prune.Holds(c, v); decided && (!ok || e != api.OK) {
			return false
		}
	}
	return true
}

func anyEmpty(d []api.Dom) bool { return slices.ContainsFunc(d, kinds.Empty) }

// checkFixed holds what became of domains by constraints against all solutions; empty, if nothing is wrong.
func checkFixed(l []api.Con, d, got []api.Dom, what int, e api.Errno) string {
	if e != api.OK {
		if e != api.ErrOver || said(l, d) || got != nil || what != 0 {
			return "an error"
		}
		return ""
	}
	sols := solutions(l, d)
	switch {
	case what == api.Fail && (len(sols) > 0 || got != nil):
		return "Fail, and there are solutions, or domains"
	case what == api.Fail:
		return ""
	case len(got) != len(d) || anyEmpty(got) || !calm(l, got):
		return "something would change"
	case what != map[bool]int{true: api.Same, false: api.Less}[slices.EqualFunc(d, got, kinds.Same)]:
		return "what became of it"
	}
	for n := range d {
		if !kinds.Same(got[n], kinds.Both(d[n], got[n])) {
			return "not within what there was"
		}
	}
	for _, v := range sols {
		if !inside(v, got) {
			return fmt.Sprint("lost: ", v)
		}
	}
	return ""
}

// P14.2, P14.4, P14.5, P14.6, P6: constraints of all families, against all assignments.
func TestFixAgainstAll(t *testing.T) {
	g := newGame(3)
	seen := map[string]int{}
	for range 6000 {
		l, d := g.cons(g.IntN(6)), g.doms()
		before := fmt.Sprint(l, d)
		got, what, e := prune.Fix(l, d)
		if wrong := checkFixed(l, d, got, what, e); wrong != "" {
			t.Fatalf("Fix %s; %s: %s, %d, %d: %s", toldCons(l), told(d), told(got), what, e, wrong)
		}
		if anyEmpty(d) && what != api.Fail {
			t.Fatal("Fix with an empty domain", toldCons(l), told(d), what, e)
		}
		if e == api.OK && what != api.Fail {
			if again, what, e := prune.Fix(l, got); what != api.Same || e != api.OK || !sameDoms(again, got) {
				t.Fatal("Fix of what Fix answered", toldCons(l), told(got), told(again), what, e)
			}
		}
		if fmt.Sprint(l, d) != before {
			t.Fatal("Fix changed what was handed in", before)
		}
		seen[fmt.Sprint(what, e)]++
	}
	if len(seen) != 4 {
		t.Error("not all of Same, Less, Fail, ErrOver:", seen)
	}
}

// Rules 4 and 5: an answer shares no memory with what was handed in, nor with a later answer, nor do two lists of it.
func TestFixMemory(t *testing.T) {
	g := newGame(4)
	for range 1000 {
		l, d := g.cons(g.IntN(3)), g.doms()
		kept := copyDoms(d)
		first, what, _ := prune.Fix(l, d)
		want := copyDoms(first)
		spoil(first)
		second, again, _ := prune.Fix(l, d)
		if !sameDoms(d, kept) || again != what || !sameDoms(second, want) {
			t.Fatal("writing into the answer is seen:", toldCons(l), told(kept))
		}
		spoil(d)
		if !sameDoms(second, want) {
			t.Fatal("writing into what was handed in is seen:", toldCons(l), told(kept))
		}
		for n := range second {
			rest := copyDoms(second)
			for _, d := range [][]api.Dom{second, rest} {
				if len(d[n].R) > 0 {
					d[n].R[0] = r(-77, -78)
				}
				if len(d[n].Lo) > 0 {
					d[n].Lo[0] = -77
				}
				if len(d[n].Up) > 0 {
					d[n].Up[0] = -78
				}
			}
			if !sameDoms(second, rest) {
				t.Fatal("two lists share memory:", toldCons(l), told(kept))
			}
		}
	}
}

// broken is a constraint in some way in which it may not be.
func (g game) broken() api.Con {
	c := g.con()
	odd := []int64{math.MinInt64, -maxBig - 1, -2, 0, 7, api.Coef + 1, math.MaxInt64}
	for i := range c.Args {
		for k := range c.Args[i].L {
			if g.IntN(6) == 0 {
				c.Args[i].L[k] = api.Term{Var: int(odd[g.IntN(len(odd))]), C: api.Val{Set: g.IntN(2) == 0, N: odd[g.IntN(len(odd))], S: odd[:g.IntN(3)]}}
			}
		}
		if g.IntN(10) == 0 {
			c.Args[i].Array = !c.Args[i].Array
		}
	}
	if g.IntN(10) == 0 {
		c.Args = c.Args[:g.IntN(len(c.Args)+1)]
	}
	return c
}

// P1: whatever is handed in, no call panics, and beside an error there is nothing else.
func TestAnything(t *testing.T) {
	g := newGame(5)
	wrong := []api.Dom{num(r(2, 1)), num(r(1, 3), r(3, 4)), num(r(math.MinInt64, math.MaxInt64)), {Set: true, R: []api.Range{r(1, 2)}}, set(list(1), list(2), 1, 1), {Least: math.MinInt}}
	errors := map[api.Errno]int{}
	for range 20000 {
		var l []api.Con
		for range g.IntN(4) {
			l = append(l, g.broken())
		}
		d := g.doms()[:5-g.IntN(2)*g.IntN(5)]
		if len(d) > 0 && g.IntN(8) == 0 {
			d[g.IntN(len(d))] = wrong[g.IntN(len(wrong))]
		}
		got, what, e := prune.Fix(l, d)
		if e != api.OK && (got != nil || what != 0) {
			t.Fatal("Fix", toldCons(l), told(d), what, e)
		}
		errors[e]++
		var want api.Errno
		for _, c := range l {
			if want == api.OK {
				want = cons.Right(c, gameKinds()[:len(d)])
			}
		}
		if slices.ContainsFunc(d, func(x api.Dom) bool { return !kinds.Right(x) }) {
			want = api.ErrDom
		}
		if want != api.OK && e != want || want == api.OK && e != api.OK && e != api.ErrOver {
			t.Fatal("Fix", toldCons(l), told(d), what, e)
		}
		for _, c := range l {
			v := make([]api.Val, len(d))
			for n := range v {
				v[n] = g.term([]string{"i", "s"}[g.IntN(2)]).C
			}
			if ok, e := prune.Holds(c, v); ok && e != api.OK {
				t.Fatal("Holds", cons.Text(c), ok, e)
			}
			if got, what, e := prune.Prune(c, d); e != api.OK && (got != nil || what != 0) {
				t.Fatal("Prune", cons.Text(c), what, e)
			}
			if n, e := prune.Check(l, v); n < -1 || n >= len(l) || n == -1 && e != api.OK {
				t.Fatal("Check", toldCons(l), n, e)
			}
		}
	}
	for _, e := range []api.Errno{api.OK, api.ErrCon, api.ErrDom, api.ErrOver} {
		if errors[e] == 0 {
			t.Error("not all were asked for:", errors)
		}
	}
}
