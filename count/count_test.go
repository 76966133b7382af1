package count_test

import (
	"testing"

	"jigsaw/api"
	"jigsaw/cons"
	"jigsaw/count"
)

// The chapter's examples.
func TestExamples(t *testing.T) {
	prunes(t, "fzn_all_different_int([x0, x1, x2])", "1..2 1..2 1..3", "1..2 1..2 3")
	prunes(t, "fzn_global_cardinality([2, 2, 1], [2], [x0])", "0..9", "2")
	if ok, e := count.Holds(parsed(t, "fzn_value_precede_int(1, 2, [2, 1])"), nil); ok || e != api.OK {
		t.Error("Holds", ok, e)
	}
}

// meanings is constraints of constants, and whether they hold.
func meanings() map[string]bool {
	return map[string]bool{
		"fzn_all_different_int([])": true, "fzn_all_different_int([7])": true, "fzn_all_different_int([7, 7])": false, "fzn_all_different_int([1, 2, 3])": true, "fzn_all_different_int([1, 2, 3, 1])": false, "fzn_all_different_int([-1000000, 1000000, 0])": true,
		"fzn_all_equal_int([])": true, "fzn_all_equal_int([7])": true, "fzn_all_equal_int([7, 7, 7])": true, "fzn_all_equal_int([7, 7, 6])": false, "fzn_all_equal_int([6, 7])": false,
		"fzn_global_cardinality([], [], [])": true, "fzn_global_cardinality([], [3], [0])": true, "fzn_global_cardinality([], [3], [1])": false, "fzn_global_cardinality([3], [], [])": true, "fzn_global_cardinality([2, 2, 1], [2], [2])": true, "fzn_global_cardinality([2, 2, 1], [2], [1])": false, "fzn_global_cardinality([2, 2, 1], [2], [3])": false,
		"fzn_global_cardinality([2, 2, 1], [2, 1, 0], [2, 1, 0])": true, "fzn_global_cardinality([2, 2, 1], [0, 1, 2], [0, 1, 2])": true, "fzn_global_cardinality([2, 2, 1], [2, 1, 0], [1, 2, 0])": false, "fzn_global_cardinality([2], [2, 3], [1, -1])": false, "fzn_global_cardinality([2, 5], [2], [4])": false, "fzn_global_cardinality([2], [1000000000, -1000000000], [0, 0])": true,
		"fzn_global_cardinality_closed([], [], [])": true, "fzn_global_cardinality_closed([3], [], [])": false, "fzn_global_cardinality_closed([], [3], [0])": true, "fzn_global_cardinality_closed([2, 2, 1], [2], [2])": false, "fzn_global_cardinality_closed([2, 2, 1], [2, 1], [2, 1])": true, "fzn_global_cardinality_closed([2, 2], [2, 1], [2, 0])": true, "fzn_global_cardinality_closed([2, 2], [2, 1], [1, 0])": false,
		"fzn_count_eq([], 1, 0)": true, "fzn_count_eq([], 1, 1)": false, "fzn_count_eq([1, 2, 1], 1, 2)": true, "fzn_count_eq([1, 2, 1], 1, 1)": false, "fzn_count_eq([1, 2, 1], 3, 0)": true, "fzn_count_eq([1, 2, 1], 1, 3)": false, "fzn_count_eq([1], 1, -1)": false,
		"fzn_among(0, [], {1})": true, "fzn_among(0, [1, 2], {})": true, "fzn_among(1, [1, 2], {})": false, "fzn_among(2, [1, 2, 3], {1,3})": true, "fzn_among(3, [1, 2, 3], {1,3})": false, "fzn_among(3, [1, 1, 1], {1,3})": true, "fzn_among(-1, [1], {2})": false,
		"fzn_nvalue(0, [])": true, "fzn_nvalue(1, [])": false, "fzn_nvalue(1, [4, 4])": true, "fzn_nvalue(2, [4, 5, 4])": true, "fzn_nvalue(3, [4, 5, 4])": false, "fzn_nvalue(-1, [4])": false,
		"fzn_at_most_int(0, [], 1)": true, "fzn_at_most_int(1, [1, 1], 1)": false, "fzn_at_most_int(2, [1, 1], 1)": true, "fzn_at_most_int(9, [1, 1], 1)": true, "fzn_at_most_int(-1, [1], 2)": false, "fzn_at_most_int(0, [1], 2)": true, "fzn_at_most_int(-1, [], 2)": false, "fzn_at_most_int(0, [1], 1000000000)": true,
		"fzn_at_least_int(0, [], 1)": true, "fzn_at_least_int(1, [], 1)": false, "fzn_at_least_int(2, [1, 1], 1)": true, "fzn_at_least_int(3, [1, 1], 1)": false, "fzn_at_least_int(-1, [], 1)": true, "fzn_at_least_int(1, [1], 2)": false, "fzn_at_least_int(1, [1], -1000000000)": false,
		"fzn_value_precede_int(1, 2, [])": true, "fzn_value_precede_int(1, 2, [2, 1])": false, "fzn_value_precede_int(1, 2, [1, 2])": true, "fzn_value_precede_int(1, 2, [3, 1, 3, 2, 2])": true, "fzn_value_precede_int(1, 2, [3, 4])": true, "fzn_value_precede_int(1, 2, [1, 1])": true, "fzn_value_precede_int(1, 2, [2])": false, "fzn_value_precede_int(2, 2, [2])": true, "fzn_value_precede_int(2, 2, [])": true, "fzn_value_precede_int(1000000000, 2, [3, 2])": false,
	}
}

// P11.1, P11.4: what they mean; Prune decides alike, and the same of variables instead of the constants that may be some.
func TestMeanings(t *testing.T) {
	for text, want := range meanings() {
		c := parsed(t, text)
		open, v, d := opened(c)
		for _, s := range []struct {
			c api.Con
			v []api.Val
			d []api.Dom
		}{{c, nil, nil}, {open, v, d}} {
			if ok, e := count.Holds(s.c, s.v); ok != want || e != api.OK {
				t.Error("Holds", cons.Text(s.c), s.v, ok, e)
			}
			got, what, e := count.Prune(s.c, s.d)
			if e != api.OK || want && (what != api.Same || told(got) != told(s.d)) || !want && (what != api.Fail || len(got) > 0) {
				t.Error("Prune", cons.Text(s.c), told(s.d), told(got), what, e)
			}
		}
	}
}

// opened is a constraint with a variable instead of each constant that may be one, with the values and the domains of these.
func opened(c api.Con) (api.Con, []api.Val, []api.Dom) {
	c = cons.Copy(c)
	var v []api.Val
	var d []api.Dom
	open := func(i int) {
		for k, x := range c.Args[i].L {
			c.Args[i].L[k] = cons.Var(len(v))
			v = append(v, x.C)
			d = append(d, api.Dom{R: []api.Range{{Lo: x.C.N, Hi: x.C.N}}})
		}
	}
	for i, part := range partsOf(c.Name) {
		if part == "I" || part == "aI" {
			open(i)
		}
	}
	return c, v, d
}

// P11.1, P11.2: what can not be is refused, as cons.Right does; numbers that are no truths are numbers like others.
func TestRefused(t *testing.T) {
	for text, want := range map[string]api.Errno{
		"int_eq(x0, x1)": api.ErrKind, "fzn_sort([x0], [x1])": api.ErrKind, "fzn_circuit([x0])": api.ErrKind,
		"fzn_global_cardinality([x0], [1, 1], [x1, x1])": api.ErrCon, "fzn_global_cardinality_closed([x0], [5, 1, 5], [1, 1, x1])": api.ErrCon, "fzn_global_cardinality([x0], [1, 2], [x1])": api.ErrCon, "fzn_global_cardinality([x0], [x0], [x1])": api.ErrCon,
		"fzn_all_different_int([x0, x2])": api.ErrCon, "fzn_all_different_int([x0, 1000001])": api.ErrCon, "fzn_all_different_int(x0)": api.ErrCon, "fzn_count_eq([x0], x1)": api.ErrCon, "fzn_among(x0, [x1], 3)": api.ErrCon, "fzn_at_most_int(x0, [x1], 1)": api.ErrCon, "fzn_at_least_int(1, [x1], x0)": api.ErrCon, "fzn_value_precede_int(x0, 2, [x1])": api.ErrCon, "fzn_nvalue([x0], [x1])": api.ErrCon,
	} {
		refuses(t, text, 2, want)
	}
	if ok, e := count.Holds(parsed(t, "fzn_all_different_int([x0, x1])"), []api.Val{{N: 7}, {N: -7}}); !ok || e != api.OK {
		t.Error("Holds of numbers", ok, e)
	}
	long := different(variables(api.MaxArray + 1)...)
	if got, what, e := count.Prune(long, spans(api.MaxArray+1, 0, 1)); got != nil || what != 0 || e != api.ErrSize {
		t.Error("too long", what, e)
	}
}

// P11.3, P11.5: what goes.
func TestPrune(t *testing.T) {
	for _, s := range [][3]string{
		{"fzn_all_equal_int([x0, x1, x2])", "1..5 3..9 0..4,8", "3..4 3..4 3..4"}, {"fzn_all_equal_int([x0, 4, x1])", "1..5 3..9", "4 4"}, {"fzn_all_equal_int([x0, x1])", "1..2 3..4", "fail"}, {"fzn_all_equal_int([x0])", "1..2", "same"}, {"fzn_all_equal_int([])", "1..2", "same"}, {"fzn_all_equal_int([x0, x0])", "1..2", "same"},
		{"fzn_global_cardinality([x0, x1, x2], [1, 2], [x3, x4])", "1..2 1 3..4 0..9 0..9", "1..2 1 3..4 1..2 0..1"}, {"fzn_global_cardinality([x0, x1, x2], [1, 2], [1, x3])", "1..2 1 1..4 0..9", "2 1 2..4 1..2"}, {"fzn_global_cardinality([x0, x1, x2], [1, 2], [2, x3])", "1..2 1 3..4 0..9", "1 1 3..4 0"}, {"fzn_global_cardinality([x0, x1], [1, 2], [x2, x3])", "1..2 1..2 0..9 2..9", "2 2 0 2"},
		{"fzn_global_cardinality([x0, x1, x2], [1, 2], [x3, x4])", "1..2 1..2 5..9 0..9 0..9", "1..2 1..2 5..9 0..2 0..2"}, {"fzn_global_cardinality([x0, x1, x2], [1, 2], [x3, x4])", "1..2 1..2 5..9 0 0..9", "2 2 5..9 0 2"}, {"fzn_global_cardinality([x0, x1], [1, 2, 3], [1, 1, 1])", "1..3 1..3", "fail"}, {"fzn_global_cardinality([x0], [2000000], [x1])", "1..9 0..9", "1..9 0"}, {"fzn_global_cardinality([x0], [1], [x1])", "1..9 -9..-1", "fail"},
		{"fzn_global_cardinality_closed([x0, x1], [1, 5, 2000000], [x2, x3, x4])", "0..9 0..9 0..9 0..9 0..9", "1,5 1,5 0..2 0..2 0"}, {"fzn_global_cardinality_closed([x0, x1], [1, 5], [x2, x3])", "0..9 0..9 0..9 0..1", "1,5 1,5 1..2 0..1"}, {"fzn_global_cardinality_closed([x0, x1], [], [])", "0..9 0..9", "fail"}, {"fzn_global_cardinality_closed([], [1], [x0])", "0..9", "0"}, {"fzn_global_cardinality_closed([x0], [2000000], [x1])", "0..9 0..9", "fail"},
		{"fzn_count_eq([x0, x1, x2], 3, x3)", "3 1..3 4..5 -9..9", "3 1..3 4..5 1..2"}, {"fzn_count_eq([x0, x1, x2], 3, 1)", "3 1..3 1..5", "3 1..2 1..2,4..5"}, {"fzn_count_eq([x0, x1, x2], 3, 3)", "3 1..3 1..5", "3 3 3"}, {"fzn_count_eq([x0, x1], x2, 2)", "3..4 4..5 0..9", "4 4 4"}, {"fzn_count_eq([x0, x1], x2, x3)", "3..4 4..5 7..9 -5..5", "3..4 4..5 7..9 0"}, {"fzn_count_eq([x0, 6], x1, x2)", "1..2 0..9 1..5", "1..2 1..2,6 1"},
		{"fzn_count_eq([x0, x1], x2, x3)", "3..4 4..5 -1000000..1000000 -5..5", "3..4 4..5 -1000000..1000000 0..2"}, {"fzn_count_eq([x0, x1], 3, -1)", "3..4 4..5", "fail"}, {"fzn_count_eq([x0, x1], 3, 3)", "3..4 3..5", "fail"},
		{"fzn_among(x0, [x1, x2, x3], {1,2,5})", "-9..9 1..2 2..3 6..9", "1..2 1..2 2..3 6..9"}, {"fzn_among(1, [x1, x2, x3], {1,2,5})", "0 1..2 2..3 4..9", "0 1..2 3 4,6..9"}, {"fzn_among(x0, [x1, x2], {1,2,5})", "2..9 0..9 2..3", "2 1..2,5 2"}, {"fzn_among(x0, [x1, x2], {})", "-9..9 0..9 2..3", "0 0..9 2..3"}, {"fzn_among(x0, [x1], {1})", "2..9 0..9", "fail"},
		{"fzn_nvalue(x0, [x1, x2, x3])", "-9..9 1..2 3..4 5", "3 1..2 3..4 5"}, {"fzn_nvalue(x0, [x1, x2, x3])", "-9..9 1..2 1..2 1..2", "1..2 1..2 1..2 1..2"}, {"fzn_nvalue(x0, [x1, x2, x3])", "3..9 1..2 1..2 1..9", "3 1..2 1..2 3..9"}, {"fzn_nvalue(x0, [x1, x2, x3])", "0..2 1 4 0..9", "2 1 4 1,4"}, {"fzn_nvalue(x0, [x1, x1, 7, 7])", "-9..9 1..9", "1..2 1..9"}, {"fzn_nvalue(x0, [])", "-9..9", "0"}, {"fzn_nvalue(2, [x0, x0])", "1..9", "fail"}, {"fzn_nvalue(2, [x0, x0, x1])", "1..2 1", "2 1"},
		{"fzn_at_most_int(1, [x0, x1], 3)", "3 1..5", "3 1..2,4..5"}, {"fzn_at_most_int(1, [x0, x1], 3)", "1..3 1..5", "same"}, {"fzn_at_most_int(-1, [x0, x1], 3)", "1..3 1..5", "fail"}, {"fzn_at_most_int(1, [x0, x0], 3)", "1..5", "1..2,4..5"}, {"fzn_at_most_int(0, [x0], 2000000)", "1..5", "same"},
		{"fzn_at_least_int(1, [x0, x1], 3)", "4..5 1..5", "4..5 3"}, {"fzn_at_least_int(1, [x0, x1], 3)", "3..5 1..5", "same"}, {"fzn_at_least_int(2, [x0, x0, x1], 3)", "3..5 1..2", "3 1..2"}, {"fzn_at_least_int(3, [x0, x1], 3)", "3..5 1..5", "fail"}, {"fzn_at_least_int(0, [x0], 3)", "4..5", "same"}, {"fzn_at_least_int(1, [x0], 2000000)", "4..5", "fail"},
		{"fzn_value_precede_int(1, 2, [x0, x1, x2])", "1..3 1..3 1..3", "1,3 1..3 1..3"}, {"fzn_value_precede_int(1, 2, [x0, x1, x2])", "2..3 1..3 2", "3 1 2"}, {"fzn_value_precede_int(1, 2, [x0, x1, x2])", "2..3 2..3 2..9", "3 3 3..9"}, {"fzn_value_precede_int(1, 2, [x0, x1, x2])", "1..3 1..3 2", "1,3 1..3 2"}, {"fzn_value_precede_int(1, 2, [x0, x1])", "2..3 2", "fail"}, {"fzn_value_precede_int(2, 2, [x0, x1])", "2 1..3", "same"}, {"fzn_value_precede_int(5, 6, [x0, x1])", "1..4 1..4", "same"}, {"fzn_value_precede_int(1, 2, [])", "1..4", "same"},
		{"fzn_all_different_int([x0, x1])", "{} 1..2", "fail"}, {"fzn_all_different_int([x1, 1])", "{} 1..2", "{} 2"}, {"fzn_all_equal_int([x1, x2])", "1..9 2 1..3", "1..9 2 2"},
	} {
		prunes(t, s[0], s[1], s[2])
	}
}

// P11.2: arrays of MaxArray terms, over the widest domains.
func TestLongArrays(t *testing.T) {
	const n = api.MaxArray
	x, d := variables(n), spans(n, -maxBig, maxBig)
	var c []api.Term
	for i := range int64(n) {
		c = append(c, cons.Int(2*i))
	}
	one := func(k int64) api.Arg { return cons.One(cons.Int(k)) }
	for _, s := range []struct {
		name string
		args []api.Arg
		what int
	}{
		{"fzn_all_different_int", []api.Arg{cons.List(x...)}, api.Same},
		{"fzn_all_equal_int", []api.Arg{cons.List(x...)}, api.Same},
		{"fzn_global_cardinality", []api.Arg{cons.List(x...), cons.List(c...), cons.List(x...)}, api.Less},
		{"fzn_global_cardinality_closed", []api.Arg{cons.List(x...), cons.List(c...), cons.List(x...)}, api.Less},
		{"fzn_count_eq", []api.Arg{cons.List(x...), cons.One(x[3]), one(n)}, api.Same},
		{"fzn_count_eq", []api.Arg{cons.List(x...), one(7), one(n)}, api.Less},
		{"fzn_among", []api.Arg{cons.One(x[3]), cons.List(x...), cons.One(cons.Set(1, 2))}, api.Less},
		{"fzn_nvalue", []api.Arg{one(n), cons.List(x...)}, api.Same},
		{"fzn_nvalue", []api.Arg{one(0), cons.List(x...)}, api.Fail},
		{"fzn_at_most_int", []api.Arg{one(0), cons.List(x...), one(7)}, api.Less},
		{"fzn_at_least_int", []api.Arg{one(n), cons.List(x...), one(7)}, api.Less},
		{"fzn_value_precede_int", []api.Arg{one(1), one(2), cons.List(x...)}, api.Less},
	} {
		if got, what, e := count.Prune(api.Con{Name: s.name, Args: s.args}, d); e != api.OK || what != s.what || (what == api.Fail) != (len(got) == 0) {
			t.Error(s.name, what, e)
		}
	}
}
