package post_test

import (
	"fmt"
	"strings"
	"testing"

	"jigsaw/api"
	"jigsaw/post"
)

// P18.1: programs as problems.
func TestPost(t *testing.T) {
	for _, c := range []struct{ s, want string }{
		{"solve satisfy;", " |  | 0 of 0 |  | "},
		{"var 1..3: x :: output_var; constraint int_le(x, 2); solve :: int_search([x], first_fail, indomain_max, complete) maximize x;",
			"1..3 | int_le(x0, 2) | 2 of 0 | [0] 1 1 | x:2 one [x0]"},
		{"var bool: b :: output_var = true; var 1..3: x; var 1..3: y :: output_var = x; constraint int_le(y, 2); constraint int_ne(x, 1); solve minimize y;",
			"0..1 1..3 1..3 | bool_eq(x0, 1); int_eq(x2, x1); int_le(x2, 2); int_ne(x1, 1) | 1 of 2 |  | b:1 one [x0]; y:2 one [x2]"},
		{"var set of 1..2: s :: note :: output_var; solve :: set_search([s], largest, indomain_split, complete) satisfy;",
			"[]..[1 2]#0..2 |  | 0 of 0 | [0] 4 3 | s:3 one [x0]"},
		{"int: n = 5; var 1..3: x; var 4..6: y; array [1..3] of var int: a :: output_array([0..0, 1..3]) = [x, n, y]; solve :: int_search(a, input_order, indomain, all) maximize a[3];",
			"1..3 4..6 |  | 2 of 1 | [0 1] 0 0 | a:2 0..0 1..3 [x0, 5, x1]"},
		{"array [1..2] of bool: c :: output_array([1..2]) = [true, false]; array [1..0] of int: e :: output_array([3..1, -5..9]) = []; array [1..1] of set of int: s :: output_array([7..7]) = [{2, 1}]; solve satisfy;",
			" |  | 0 of 0 |  | c:1 1..2 [1, 0]; e:2 3..1 -5..9 []; s:3 7..7 [{1,2}]"},
		{"var 1..3: x; solve :: int_search([x, 2, x], random, indomain_random, 5) :: note(1) :: seq_search([]) satisfy;",
			"1..3 |  | 0 of 0 | [0 0] 5 5 | "},
		{"var bool: b; var 1..3: x; var set of {}: s; solve :: seq_search([bool_search([b, true], smallest, indomain_reverse_split, complete), note, seq_search([set_search([s], anti_first_fail, indomain_median, f(x))]), \"s\"]) :: int_search([], input_order, indomain_min, complete) minimize x;",
			"0..1 1..3 []..[]#0..0 |  | 1 of 1 | [0] 3 4; [2] 2 2; [] 0 0 | "},
	} {
		if got := told(posted(t, c.s)); got != c.want {
			t.Errorf("%s\ngot  %s\nwant %s", c.s, got, c.want)
		}
	}
}

// P18.1: each selector by its name, and no other name, nor what is none.
func TestSelectors(t *testing.T) {
	selects := map[string]int{"input_order": api.VInput, "first_fail": api.VFirst, "anti_first_fail": api.VAnti, "smallest": api.VLeast, "largest": api.VMost, "random": api.VRandom}
	values := map[string]int{"indomain_min": api.WMin, "indomain": api.WMin, "indomain_max": api.WMax, "indomain_median": api.WMedian, "indomain_split": api.WSplit, "indomain_reverse_split": api.WBack, "indomain_random": api.WRandom}
	const program = "var bool: b; var 1..3: x; var set of 1..3: s; solve :: %s([%s], %s, %s, complete) satisfy;"
	for i, search := range []string{"bool_search", "int_search", "set_search"} {
		vars := []string{"b", "x", "s"}[i]
		for s, n := range selects {
			for v, m := range values {
				p := posted(t, fmt.Sprintf(program, search, vars, s, v))
				if len(p.Phases) != 1 || fmt.Sprint(p.Phases[0]) != fmt.Sprint(api.Phase{Vars: []int{i}, Select: n, Value: m}) {
					t.Error(search, s, v, p.Phases)
				}
			}
		}
		for _, bad := range []string{"bad", "dom_w_deg", "First_fail", "first_fail()", "\"first_fail\"", "first_fail[1]", "1", "[first_fail]", "indomain"} {
			refused(t, read(t, fmt.Sprintf(program, search, vars, bad, "indomain")), api.ErrType, post.InSolve, 0)
		}
		for _, bad := range []string{"bad", "indomain_interval", "indomain()", "\"indomain\"", "indomain[1]", "true", "{}", "first_fail"} {
			refused(t, read(t, fmt.Sprintf(program, search, vars, "first_fail", bad)), api.ErrType, post.InSolve, 0)
		}
	}
}

// P18.1: annotations of searches that are at fault, and such that say nothing.
func TestSearches(t *testing.T) {
	const decls = "var bool: b; var 1..3: x; var set of 1..3: s; array [1..2] of var int: a = [x, 7]; array [1..1] of bool: c = [true]; array [1..1] of int: far = [1000001]; int: n = 1; "
	const rest = ", input_order, indomain, complete)"
	for _, c := range []struct {
		s    string
		e    api.Errno
		want string
	}{
		{"int_search([x]" + rest, api.OK, "[1] 0 0"},
		{"int_search(a" + rest, api.OK, "[1] 0 0"},
		{"int_search([a[1], a[2], n, 4]" + rest, api.OK, "[1] 0 0"},
		{"bool_search(c" + rest, api.OK, "[] 0 0"},
		{"bool_search([true, b, false]" + rest, api.OK, "[0] 0 0"},
		{"set_search([{}, s]" + rest, api.OK, "[2] 0 0"},
		{"int_search([x]" + rest + " :: bool_search([b]" + rest, api.OK, "[1] 0 0; [0] 0 0"},
		{"int_search([b]" + rest, api.ErrType, ""},
		{"bool_search([x]" + rest, api.ErrType, ""},
		{"set_search([x]" + rest, api.ErrType, ""},
		{"int_search(x" + rest, api.ErrType, ""},
		{"int_search([z]" + rest, api.ErrType, ""},
		{"int_search(z" + rest, api.ErrType, ""},
		{"int_search(c" + rest, api.ErrType, ""},
		{"int_search(far" + rest, api.ErrType, ""},
		{"int_search([1000001]" + rest, api.ErrType, ""},
		{"int_search([x], input_order, indomain)", api.ErrType, ""},
		{"int_search([x], input_order, indomain, complete, 1)", api.ErrType, ""},
		{"bool_search()", api.ErrType, ""},
		{"set_search", api.ErrType, ""},
		{"seq_search", api.ErrType, ""},
		{"seq_search()", api.ErrType, ""},
		{"seq_search([], [])", api.ErrType, ""},
		{"seq_search(int_search([x]" + rest + ")", api.ErrType, ""},
		{"seq_search(a)", api.ErrType, ""},
		{"seq_search([int_search([x]" + rest + ", seq_search(1)])", api.ErrType, ""},
		{"seq_search([int_search([x]" + rest + ", int_search(b" + rest + "])", api.ErrType, ""},
		{"seq_search([int_search([x]" + rest + ", note, int_search([x]" + rest + "])", api.OK, "[1] 0 0; [1] 0 0"},
		{"note :: \"int_search\" :: int_search[1] :: restart(1) :: [int_search] :: {} :: 1", api.OK, ""},
		{"float_search([x]" + rest, api.OK, ""},
		{"note :: int_search(1)", api.ErrType, ""},
	} {
		p := read(t, decls+"solve :: "+c.s+" satisfy;")
		if c.e != api.OK {
			refused(t, p, c.e, post.InSolve, 0)
			continue
		}
		if got := strings.Split(told(posted(t, decls+"solve :: "+c.s+" satisfy;")), " | ")[3]; got != c.want {
			t.Errorf("%s: %s; want %s", c.s, got, c.want)
		}
	}
}

// nested is an annotation within n of seq_search.
func nested(n int, x ...api.Expr) api.Expr {
	out := call("seq_search", array(x...))
	for range n - 1 {
		out = call("seq_search", array(out))
	}
	return out
}

// P18.1: ErrState of what is deeper than MaxNest; whatever comes first is told.
func TestDeepSearches(t *testing.T) {
	p := read(t, "var 1..3: x; solve satisfy;")
	search := call("int_search", array(name("x")), name("input_order"), name("indomain"), name("complete"))
	wrong := call("int_search")
	for _, c := range []struct {
		l []api.Expr
		e api.Errno
	}{
		{[]api.Expr{nested(api.MaxNest, search)}, api.OK},
		{[]api.Expr{nested(api.MaxNest+1, search)}, api.ErrState},
		{[]api.Expr{nested(api.MaxNest + 1)}, api.ErrState},
		{[]api.Expr{nested(1000, search)}, api.ErrState},
		{[]api.Expr{search, nested(api.MaxNest+1, wrong)}, api.ErrState},
		{[]api.Expr{wrong, nested(api.MaxNest+1, search)}, api.ErrType},
		{[]api.Expr{nested(api.MaxNest+1, search), wrong}, api.ErrState},
		{[]api.Expr{nested(api.MaxNest, call("seq_search", number(1)))}, api.ErrType},
		{[]api.Expr{nested(api.MaxNest, call("seq_search"))}, api.ErrType},
		{[]api.Expr{nested(api.MaxNest, call("note", nested(2)), wrong)}, api.ErrType},
	} {
		p.Anns = c.l
		if c.e != api.OK {
			refused(t, p, c.e, post.InSolve, 0)
		} else if x, e, _, _ := post.Post(p); e != api.OK || len(x.Phases) != 1 {
			t.Error("Post", e, x.Phases)
		}
	}
	p.Anns = []api.Expr{search}
	p.Anns[0].Kind = api.EName // a name has no arguments, whatever stands in its list
	refused(t, p, api.ErrType, post.InSolve, 0)
	long := read(t, "solve satisfy;")
	long.Anns = []api.Expr{call("int_search", array(make([]api.Expr, api.MaxArray+1)...), name("input_order"), name("indomain"), name("complete"))}
	refused(t, long, api.ErrType, post.InSolve, 0)
}

// P18.1: what the goal is of.
func TestGoals(t *testing.T) {
	const decls = "int: n = 1; int: far = 1000001; var bool: b; var 1..3: x; var set of 1..3: s; array [1..2] of var int: a = [x, 7]; array [1..1] of var set of int: v = [s]; array [1..1] of int: c = [1]; array [1..1] of var bool: t = [b]; solve satisfy;"
	for _, c := range []struct {
		of api.Expr
		e  api.Errno
	}{
		{name("x"), api.OK}, {at("a", 1), api.OK},
		{name("z"), api.ErrName}, {name(""), api.ErrName}, {at("z", 1), api.ErrName}, {at("z", 0), api.ErrName},
		{name("n"), api.ErrType}, {name("far"), api.ErrType}, {name("b"), api.ErrType}, {name("s"), api.ErrType}, {name("a"), api.ErrType}, {name("c"), api.ErrType},
		{at("a", 2), api.ErrType}, {at("a", 0), api.ErrType}, {at("a", 3), api.ErrType}, {at("a", -1), api.ErrType}, {at("x", 1), api.ErrType},
		{at("v", 1), api.ErrType}, {at("c", 1), api.ErrType}, {at("t", 1), api.ErrType},
		{number(3), api.ErrType}, {span(1, 2), api.ErrType}, {array(name("x")), api.ErrType}, {call("x"), api.ErrType}, {call("z"), api.ErrType}, {text("x"), api.ErrType},
		{api.Expr{}, api.ErrType}, {api.Expr{Kind: api.EBool, N: 1}, api.ErrType}, {api.Expr{Kind: api.ESet}, api.ErrType}, {api.Expr{Kind: 10, Name: "x"}, api.ErrType},
	} {
		p := read(t, decls)
		p.Of = c.of
		for goal := -1; goal < 4; goal++ {
			p.Goal = goal
			switch {
			case goal == api.Satisfy:
				if x, e, _, _ := post.Post(p); e != api.OK || x.Goal != goal || x.Of != 0 {
					t.Error("Post: satisfy", c.of, e, x.Of)
				}
			case goal < 0 || goal > api.Maximize:
				refused(t, p, api.ErrType, post.InSolve, 0)
			case c.e != api.OK:
				refused(t, p, c.e, post.InSolve, 0)
			default:
				if x, e, _, _ := post.Post(p); e != api.OK || x.Goal != goal || x.Of != 1 {
					t.Error("Post:", goal, c.of, e, x.Of)
				}
			}
		}
	}
}
