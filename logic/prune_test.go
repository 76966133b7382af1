package logic_test

import (
	"fmt"
	"strings"
	"testing"

	"jigsaw/api"
	"jigsaw/cons"
	"jigsaw/dom"
	"jigsaw/logic"
)

// P9.2, P9.5: what goes, by hand.
func TestPrune(t *testing.T) {
	for _, s := range [][3]string{
		{"bool2int(x0, x1)", "0..1 0..1", "same"}, {"bool2int(x0, x1)", "0..1 -1000000..1000000", "0..1 0..1"}, {"bool2int(x0, x1)", "0..1 1..9", "1 1"}, {"bool2int(x0, x1)", "0 -5,0,7", "0 0"}, {"bool2int(x0, x1)", "0..1 2..9", "fail"}, {"bool2int(x0, x1)", "1 -9..0", "fail"}, {"bool2int(1, x0)", "-1,1,3", "1"}, {"bool2int(x0, 2)", "0..1", "fail"},
		{"bool_eq(x0, x1)", "0..1 1", "1 1"}, {"bool_eq(x0, x1)", "0 1", "fail"}, {"bool_ne(x0, x1)", "0..1 1", "0 1"}, {"bool_not(x0, x1)", "0 0..1", "0 1"}, {"bool_ne(x0, x0)", "0..1", "fail"}, {"bool_eq(x0, x0)", "0..1", "same"},
		{"bool_le(x0, x1)", "0..1 0..1", "same"}, {"bool_le(x0, x1)", "1 0..1", "1 1"}, {"bool_le(x0, x1)", "0..1 0", "0 0"}, {"bool_le(x0, x1)", "0..1 1", "same"}, {"bool_lt(x0, x1)", "0..1 0..1", "0 1"}, {"bool_lt(x0, x1)", "1 0..1", "fail"}, {"bool_lt(x0, x0)", "0..1", "fail"},
		{"bool_eq_reif(x0, x1, x2)", "0..1 0..1 0..1", "same"}, {"bool_eq_reif(x0, x1, x2)", "0 0 0..1", "0 0 1"}, {"bool_ne_reif(x0, x1, x2)", "0..1 1 1", "0 1 1"}, {"bool_le_reif(x0, x1, x2)", "0..1 0..1 0", "1 0 0"}, {"bool_le_reif(x0, x1, x2)", "0 0..1 0..1", "0 0..1 1"}, {"bool_lt_reif(x0, x1, x2)", "0..1 0..1 1", "0 1 1"}, {"bool_lt_reif(x0, x0, x1)", "0..1 0..1", "0..1 0"},
		{"bool_and(x0, x1, x2)", "0..1 0..1 1", "1 1 1"}, {"bool_and(x0, x1, x2)", "0 0..1 0..1", "0 0..1 0"}, {"bool_and(x0, x1, x2)", "1 0..1 0", "1 0 0"}, {"bool_or(x0, x1, x2)", "0..1 0..1 0", "0 0 0"}, {"bool_or(x0, x1, x2)", "0..1 1 0..1", "0..1 1 1"}, {"bool_or(x0, x1, x2)", "0 0..1 1", "0 1 1"}, {"bool_xor(x0, x1, x2)", "1 0..1 1", "1 0 1"}, {"bool_xor(x0, x1, x2)", "0..1 0..1 1", "same"}, {"bool_xor(x0, x0, x1)", "0..1 0..1", "0..1 0"},
		{"bool_clause([x0], [x1])", "0..1 0..1", "same"}, {"bool_clause([x0], [x1])", "0 0..1", "0 0"}, {"bool_clause([x0], [x1])", "0..1 1", "1 1"}, {"bool_clause([x0], [x1])", "1 0..1", "same"}, {"bool_clause([x0, x1], [])", "0 0..1", "0 1"}, {"bool_clause([], [x0, x1])", "1 0..1", "1 0"}, {"bool_clause([], [])", "0..1", "fail"}, {"bool_clause([x0], [x1])", "0 1", "fail"},
		{"bool_clause([x0, x0], [])", "0..1", "1"}, {"bool_clause([x0], [x0])", "0..1", "same"}, {"bool_clause([x0, 1], [])", "0..1", "same"}, {"bool_clause([x0, 0], [1, x1])", "0..1 1", "1 1"}, {"bool_clause([x0, x1], [x0])", "0..1 0..1", "same"},
		{"bool_clause_reif([x0], [x1], x2)", "0..1 0..1 0", "0 1 0"}, {"bool_clause_reif([x0], [x1], x2)", "0 1 0..1", "0 1 0"}, {"bool_clause_reif([x0], [x1], x2)", "0..1 0 0..1", "0..1 0 1"}, {"bool_clause_reif([x0], [x1], x2)", "0 0..1 1", "0 0 1"}, {"bool_clause_reif([x0], [x0], x1)", "0..1 0..1", "0..1 1"}, {"bool_clause_reif([x1], [x0], x0)", "0..1 0..1", "1 1"}, {"bool_clause_reif([], [], x0)", "0..1", "0"}, {"bool_clause_reif([], [], 1)", "0..1", "fail"},
		{"array_bool_and([x0, x1], x2)", "0..1 0..1 1", "1 1 1"}, {"array_bool_and([x0, x1], x2)", "1 0..1 0", "1 0 0"}, {"array_bool_and([x0, x1], x2)", "0 0..1 0..1", "0 0..1 0"}, {"array_bool_and([x0, x1], x2)", "1 1 0..1", "1 1 1"}, {"array_bool_and([], x0)", "0..1", "1"}, {"array_bool_and([], x0)", "0", "fail"}, {"array_bool_and([x0, x1], x2)", "0..1 0..1 0", "same"},
		{"array_bool_or([x0, x1], x2)", "0..1 0..1 0", "0 0 0"}, {"array_bool_or([x0, x1], x2)", "0 0..1 1", "0 1 1"}, {"array_bool_or([x0, x1], x2)", "1 0..1 0..1", "1 0..1 1"}, {"array_bool_or([x0, x1], x2)", "0 0 0..1", "0 0 0"}, {"array_bool_or([], x0)", "0..1", "0"}, {"array_bool_or([], x0)", "1", "fail"},
		{"array_bool_xor([x0, x1, 1])", "0..1 1", "1 1"}, {"array_bool_xor([x0, x1])", "0..1 0..1", "same"}, {"array_bool_xor([x0, x0, x1])", "0..1 0..1", "0..1 1"}, {"array_bool_xor([x0, x0])", "0..1", "fail"}, {"array_bool_xor([])", "0..1", "fail"}, {"array_bool_xor([x0, x0, x0])", "0..1", "1"}, {"array_bool_xor([1, x0])", "0..1", "0"}, {"array_bool_xor([x0, x0, x1, x1])", "0..1 0..1", "fail"}, {"array_bool_xor([x0, x0, 1, x1, x1])", "0..1 0..1", "same"},
		{"bool_eq(x0, x1)", "-5..5 -5..5", "0..1 0..1"}, {"bool_eq(x0, x1)", "2..5 0..1", "fail"}, {"bool_eq(x0, x1)", "-1,1,3 -5..5", "1 1"}, {"array_bool_or([x0, x1], x2)", "1 -9..9 1", "1 0..1 1"}, {"bool_clause([x0], [x1])", "1 2", "fail"}, {"bool_eq_reif(0, 0, x0)", "-9..9", "1"}, {"bool_clause([x0, x1], [])", "1 0,5", "1 0"},
		{"bool_eq(x0, x1)", "{} 0..1", "fail"}, {"array_bool_xor([x1])", "{} 0..1", "{} 1"}, {"bool_le(x0, x2)", "1 0..9 0..1", "1 0..9 1"},
	} {
		prunes(t, s[0], s[1], s[2])
	}
}

// P9.2: arrays of MaxArray truths, the last of which is left; one more is too many.
func TestLongArrays(t *testing.T) {
	var l, twice []api.Term
	d := make([]api.Dom, api.MaxArray)
	for n := range d {
		l, twice = append(l, cons.Var(n)), append(twice, cons.Var(n/2))
		d[n].R = []api.Range{{Lo: 0, Hi: 0}}
	}
	last := api.MaxArray - 1
	d[last].R[0].Hi = 1
	for _, s := range []struct {
		args []api.Arg
		name string
		want string
	}{
		{[]api.Arg{cons.List(l...), cons.List()}, "bool_clause", "1"},
		{[]api.Arg{cons.List(l...), cons.One(cons.Int(1))}, "array_bool_or", "1"},
		{[]api.Arg{cons.List(l...), cons.One(cons.Int(0))}, "array_bool_or", "0"},
		{[]api.Arg{cons.List(l...), cons.One(cons.Int(0))}, "array_bool_and", "0..1"},
		{[]api.Arg{cons.List(l...)}, "array_bool_xor", "1"},
		{[]api.Arg{cons.List(twice...), cons.List(l...), cons.One(cons.Int(1))}, "bool_clause_reif", "0..1"},
	} {
		got, what, e := logic.Prune(api.Con{Name: s.name, Args: s.args}, d)
		if e != api.OK || what == api.Fail || dom.Text(got[last].R) != s.want || (what == api.Same) != (s.want == "0..1") {
			t.Error(s.name, what, e)
		}
		s.args[0].L = append(s.args[0].L, cons.Int(0))
		if got, what, e := logic.Prune(api.Con{Name: s.name, Args: s.args}, d); got != nil || what != 0 || e != api.ErrSize {
			t.Error(s.name, "of too many", what, e)
		}
	}
}

// clauses is all constraints with arrays of at most so many terms, of these terms.
func clauses(terms []string, most int) []string {
	lists := []string{""}
	for last := lists; most > 0; most-- {
		var next []string
		for _, l := range last {
			for _, x := range terms {
				next = append(next, strings.TrimPrefix(l+", "+x, ", "))
			}
		}
		lists, last = append(lists, next...), next
	}
	var out []string
	for _, l := range lists {
		out = append(out, fmt.Sprintf("array_bool_xor([%s])", l))
		for _, x := range terms {
			out = append(out, fmt.Sprintf("array_bool_and([%s], %s)", l, x), fmt.Sprintf("array_bool_or([%s], %s)", l, x))
		}
		for _, n := range lists {
			out = append(out, fmt.Sprintf("bool_clause([%s], [%s])", l, n), fmt.Sprintf("bool_clause_reif([%s], [%s], x2)", l, n))
		}
	}
	return out
}

// small is all constraints without arrays, of these terms.
func small(terms []string) []string {
	var out []string
	for name, yes := range tables() {
		for _, a := range terms {
			for _, b := range terms {
				if len(strings.Fields(yes)[0]) == 2 {
					out = append(out, fmt.Sprintf("%s(%s, %s)", name, a, b))
					continue
				}
				for _, c := range terms {
					out = append(out, fmt.Sprintf("%s(%s, %s, %s)", name, a, b, c))
				}
			}
		}
	}
	return out
}

// P9.3: of all truths of three variables nothing is lost, and where no variable stands twice, just what holds is left.
func TestAllTruths(t *testing.T) {
	terms := []string{"x0", "x1", "x2", "1"}
	choices := []string{"0", "1", "0..1"}
	for _, text := range append(small(append(terms, "0")), clauses(terms, 2)...) {
		c := parsed(t, text)
		for mask := range 27 {
			d := doms(t, choices[mask%3]+" "+choices[mask/3%3]+" "+choices[mask/9])
			var good [][]int64
			for v := range 8 {
				l := []int64{int64(v & 1), int64(v >> 1 & 1), int64(v >> 2)}
				ok, e := logic.Holds(c, []api.Val{{N: l[0]}, {N: l[1]}, {N: l[2]}})
				if e != api.OK {
					t.Fatal("Holds", text, e)
				}
				if ok && dom.Has(d[0].R, l[0]) && dom.Has(d[1].R, l[1]) && dom.Has(d[2].R, l[2]) {
					good = append(good, l)
				}
			}
			compare(t, c, d, good)
		}
	}
}

// compare holds what Prune answers against the truths with which a constraint holds.
func compare(t *testing.T, c api.Con, d []api.Dom, good [][]int64) {
	t.Helper()
	vars := cons.Vars(c)
	once := len(vars) == strings.Count(cons.Text(c), "x")-strings.Count(c.Name, "x")
	got, what, e := logic.Prune(c, d)
	if e != api.OK || what == api.Fail && len(good) > 0 || what != api.Fail && len(good) == 0 && once {
		t.Fatal("Prune", cons.Text(c), told(d), what, e)
	}
	if what == api.Fail {
		return
	}
	for _, n := range vars {
		var left []int64
		for _, l := range good {
			left = append(left, l[n])
		}
		want, _ := dom.Of(left...)
		if !dom.Within(want, got[n].R) || once && !dom.Same(want, got[n].R) {
			t.Fatal("Prune", cons.Text(c), told(d), "is", told(got))
		}
	}
}
