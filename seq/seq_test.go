package seq_test

import (
	"testing"

	"jigsaw/api"
	"jigsaw/cons"
	"jigsaw/seq"
)

// The chapter's examples.
func TestExamples(t *testing.T) {
	prunes(t, "fzn_table_int([x0, x1], [1, 2, 3, 4])", "1..3 3..9", "3 4")
	prunes(t, "fzn_regular([x0, x1], 2, 2, [1, 2, 2, 0], 1, {2})", "1..2 1..2", "same")
	for _, text := range []string{"fzn_sort([3, 1], [1, 3])", "fzn_lex_less_int([1], [1, 0])", "fzn_inverse([2, 1], [2, 1])"} {
		if ok, e := seq.Holds(parsed(t, text), nil); !ok || e != api.OK {
			t.Error("Holds", text, ok, e)
		}
	}
}

// meanings is constraints of constants, and whether they hold.
func meanings() map[string]bool {
	return map[string]bool{
		"fzn_lex_less_int([], [])": false, "fzn_lex_less_int([], [-5])": true, "fzn_lex_less_int([-5], [])": false, "fzn_lex_less_int([1], [1])": false, "fzn_lex_less_int([1], [1, 0])": true, "fzn_lex_less_int([1, 0], [1])": false, "fzn_lex_less_int([1, 9], [2])": true, "fzn_lex_less_int([2], [1, 9])": false, "fzn_lex_less_int([1, 2, 3], [1, 3, 0])": true, "fzn_lex_less_int([1, 3, 0], [1, 2, 3])": false, "fzn_lex_less_int([1, 2], [1, 2, -9])": true,
		"fzn_lex_lesseq_int([], [])": true, "fzn_lex_lesseq_int([], [-5])": true, "fzn_lex_lesseq_int([-5], [])": false, "fzn_lex_lesseq_int([1], [1])": true, "fzn_lex_lesseq_int([1, 0], [1])": false, "fzn_lex_lesseq_int([1, 0], [2])": true, "fzn_lex_lesseq_int([1, 2], [1, 1])": false,
		"fzn_sort([], [])": true, "fzn_sort([7], [7])": true, "fzn_sort([7], [6])": false, "fzn_sort([3, 1], [1, 3])": true, "fzn_sort([3, 1], [3, 1])": false, "fzn_sort([3, 1, 3], [1, 3, 3])": true, "fzn_sort([3, 1, 3], [1, 1, 3])": false, "fzn_sort([1, 2], [1, 3])": false,
		"fzn_increasing_int([])": true, "fzn_increasing_int([5])": true, "fzn_increasing_int([1, 1, 2])": true, "fzn_increasing_int([1, 2, 1])": false, "fzn_strictly_increasing_int([])": true, "fzn_strictly_increasing_int([5])": true, "fzn_strictly_increasing_int([1, 1])": false, "fzn_strictly_increasing_int([-1, 1, 2])": true, "fzn_strictly_increasing_int([2, 1])": false,
		"fzn_decreasing_int([])": true, "fzn_decreasing_int([5])": true, "fzn_decreasing_int([2, 1, 1])": true, "fzn_decreasing_int([1, 2])": false, "fzn_decreasing_int([2, 1, 2])": false,
		"fzn_inverse([], [])": true, "fzn_inverse([1], [1])": true, "fzn_inverse([0], [0])": false, "fzn_inverse([1], [2])": false, "fzn_inverse([2], [1])": false, "fzn_inverse([2, 1], [2, 1])": true, "fzn_inverse([2, 1], [1, 2])": false, "fzn_inverse([2, 3, 1], [3, 1, 2])": true, "fzn_inverse([2, 3, 1], [2, 3, 1])": false, "fzn_inverse([1, 1], [1, 1])": false, "fzn_inverse([1, 3], [1, 2])": false, "fzn_inverse([1, 2], [1, -2])": false, "fzn_inverse([1, 2], [1, 3])": false,
		"fzn_maximum_int(3, [1, 3])": true, "fzn_maximum_int(3, [3])": true, "fzn_maximum_int(1, [1, 3])": false, "fzn_maximum_int(4, [1, 3])": false, "fzn_maximum_int(-1, [-1, -3])": true, "fzn_minimum_int(1, [1, 3])": true, "fzn_minimum_int(3, [1, 3])": false, "fzn_minimum_int(0, [1, 3])": false, "fzn_minimum_int(-3, [-1, -3])": true,
		"fzn_member_int([], 3)": false, "fzn_member_int([1, 2], 3)": false, "fzn_member_int([1, 2], 2)": true, "fzn_member_int([3], 3)": true,
		"fzn_table_int([1], [])": false, "fzn_table_int([1], [2, 1])": true, "fzn_table_int([3], [2, 1])": false, "fzn_table_int([1, 2], [])": false, "fzn_table_int([1, 2], [1, 2])": true, "fzn_table_int([1, 2], [2, 1])": false, "fzn_table_int([2, 3], [1, 2, 3, 4])": false, "fzn_table_int([3, 4], [1, 2, 3, 4, 3, 4])": true, "fzn_table_int([1], [1000000000])": false,
		"fzn_regular([], 1, 1, [1], 1, {1})": true, "fzn_regular([], 1, 1, [1], 1, {})": false, "fzn_regular([], 2, 1, [1, 1], 2, {1})": false, "fzn_regular([], 2, 1, [1, 1], 2, {2})": true, "fzn_regular([1, 2], 2, 2, [1, 2, 2, 0], 1, {2})": true, "fzn_regular([2, 1], 2, 2, [1, 2, 2, 0], 1, {2})": true, "fzn_regular([2, 2], 2, 2, [1, 2, 2, 0], 1, {2})": false, "fzn_regular([1, 1], 2, 2, [1, 2, 2, 0], 1, {2})": false, "fzn_regular([1, 1], 2, 2, [1, 2, 2, 0], 1, {1,2})": true,
		"fzn_regular([0], 1, 2, [1, 1], 1, {1})": false, "fzn_regular([3], 1, 2, [1, 1], 1, {1})": false, "fzn_regular([-1], 1, 2, [1, 1], 1, {1})": false, "fzn_regular([2], 1, 2, [0, 1], 1, {1})": true, "fzn_regular([1], 1, 2, [0, 1], 1, {0,1})": false, "fzn_regular([1], 2, 3, [1, 2, 2, 0, 0, 1], 1, {-5,0,1,7})": true, "fzn_regular([3, 3], 2, 3, [1, 2, 2, 0, 0, 1], 1, {1})": true, "fzn_regular([3, 1], 2, 3, [1, 2, 2, 0, 0, 1], 1, {1})": false, "fzn_regular([3, 3], 2, 3, [1, 2, 2, 0, 0, 1], 2, {1})": false, "fzn_regular([3, 3], 2, 3, [1, 2, 2, 0, 0, 1], 2, {2})": true,
	}
}

// P12.1, P12.4: what they mean; Prune decides alike, and the same of variables instead of the constants that may be some.
func TestMeanings(t *testing.T) {
	for text, want := range meanings() {
		c := parsed(t, text)
		open, v, d := opened(c)
		for _, s := range []struct {
			c api.Con
			v []api.Val
			d []api.Dom
		}{{c, nil, nil}, {open, v, d}} {
			if ok, e := seq.Holds(s.c, s.v); ok != want || e != api.OK {
				t.Error("Holds", cons.Text(s.c), s.v, ok, e)
			}
			got, what, e := seq.Prune(s.c, s.d)
			if e != api.OK || want && (what != api.Same || told(got) != told(s.d)) || !want && (what != api.Fail || len(got) > 0) {
				t.Error("Prune", cons.Text(s.c), told(s.d), told(got), what, e)
			}
		}
	}
}

// opened is a constraint with a variable instead of each constant that may be one, with the values and the domains of these.
func opened(c api.Con) (api.Con, []api.Val, []api.Dom) {
	c = cons.Copy(c)
	var v []api.Val
	var d []api.Dom
	open := func(i int) {
		for k, x := range c.Args[i].L {
			c.Args[i].L[k] = cons.Var(len(v))
			v = append(v, x.C)
			d = append(d, api.Dom{R: []api.Range{{Lo: x.C.N, Hi: x.C.N}}})
		}
	}
	for i, part := range partsOf(c.Name) {
		if part == "I" || part == "aI" {
			open(i)
		}
	}
	return c, v, d
}

// P12.1, P12.2: what can not be is refused, as cons.Right does; numbers that are no truths are numbers like others.
func TestRefused(t *testing.T) {
	for text, want := range map[string]api.Errno{
		"int_eq(x0, x1)": api.ErrKind, "fzn_nvalue(x0, [x1])": api.ErrKind, "fzn_circuit([x0])": api.ErrKind,
		"fzn_sort([x0, x1], [x0])": api.ErrCon, "fzn_sort([], [x0])": api.ErrCon, "fzn_inverse([x0], [x1, x0])": api.ErrCon, "fzn_inverse([x0], [])": api.ErrCon, "fzn_maximum_int(x0, [])": api.ErrCon, "fzn_minimum_int(x0, [])": api.ErrCon, "fzn_maximum_int([x0], x1)": api.ErrCon,
		"fzn_table_int([], [])": api.ErrCon, "fzn_table_int([x0, x1], [1, 2, 3])": api.ErrCon, "fzn_table_int([x0], [x1])": api.ErrCon, "fzn_member_int([x0], [x1])": api.ErrCon, "fzn_lex_less_int([x0], x1)": api.ErrCon, "fzn_lex_less_int([x0], [x2])": api.ErrCon, "fzn_increasing_int([x0, 1000001])": api.ErrCon,
		"fzn_regular([x0], 0, 1, [], 1, {1})": api.ErrCon, "fzn_regular([x0], 1, 0, [], 1, {1})": api.ErrCon, "fzn_regular([x0], 1, 2, [1], 1, {1})": api.ErrCon, "fzn_regular([x0], 1, 1, [2], 1, {1})": api.ErrCon, "fzn_regular([x0], 1, 1, [-1], 1, {1})": api.ErrCon, "fzn_regular([x0], 1, 1, [1], 0, {1})": api.ErrCon, "fzn_regular([x0], 1, 1, [1], 2, {1})": api.ErrCon, "fzn_regular([x0], 1, 1, [1], 1, 1)": api.ErrCon, "fzn_regular([x0], x1, 1, [1], 1, {1})": api.ErrCon, "fzn_regular([x0], 1001, 1, [1], 1, {1})": api.ErrCon,
	} {
		refuses(t, text, 2, want)
	}
	if ok, e := seq.Holds(parsed(t, "fzn_increasing_int([x0, x1])"), []api.Val{{N: -7}, {N: 7}}); !ok || e != api.OK {
		t.Error("Holds of numbers", ok, e)
	}
	long := api.Con{Name: "fzn_increasing_int", Args: []api.Arg{cons.List(variables(api.MaxArray + 1)...)}}
	if got, what, e := seq.Prune(long, spans(api.MaxArray+1, 0, 1)); got != nil || what != 0 || e != api.ErrSize {
		t.Error("too long", what, e)
	}
}

// P12.3, P12.5: what goes.
func TestPrune(t *testing.T) {
	for _, s := range [][3]string{
		{"fzn_lex_less_int([x0, x1], [x2, x3])", "3..9 0..9 0..5 0..9", "3..5 0..9 3..5 0..9"}, {"fzn_lex_less_int([x0, x1], [x2, x3])", "3..9 5..9 0..5 0..5", "3..4 5..9 4..5 0..5"}, {"fzn_lex_lesseq_int([x0, x1], [x2, x3])", "3..9 5..9 0..5 0..5", "3..5 5..9 3..5 0..5"}, {"fzn_lex_less_int([x0, x1], [x2, x3])", "3 5..9 0..3 0..7", "3 5..6 3 6..7"}, {"fzn_lex_lesseq_int([x0, x1], [x2, x3])", "3 5..9 0..3 0..7", "3 5..7 3 5..7"},
		{"fzn_lex_less_int([x0], [x1, x2])", "3..9 0..5 0..9", "3..5 3..5 0..9"}, {"fzn_lex_less_int([x0, x2], [x1])", "3..9 0..5 0..9", "3..4 4..5 0..9"}, {"fzn_lex_less_int([x0], [x0])", "-1000000..1000000", "fail"}, {"fzn_lex_lesseq_int([x0], [x0])", "-1000000..1000000", "same"}, {"fzn_lex_less_int([x0, x1], [x0, x2])", "0..9 3..9 0..5", "0..9 3..4 4..5"}, {"fzn_lex_less_int([x0, x1], [x0])", "0..9 3..9", "fail"}, {"fzn_lex_less_int([x0], [x0, x1])", "0..9 3..9", "same"}, {"fzn_lex_less_int([], [])", "0..9", "fail"}, {"fzn_lex_lesseq_int([x0], [])", "0..9", "fail"}, {"fzn_lex_less_int([x0], [x1])", "5..9 0..5", "fail"}, {"fzn_lex_less_int([x0, x1], [x2, x3])", "4..9 0..9 0..4 0", "fail"},
		{"fzn_sort([x0, x1], [x2, x3])", "1..3 2..9 0..99 0..99", "1..3 2..9 1..3 2..9"}, {"fzn_sort([x0, x1], [x2, x3])", "0..9 0..9 2..3 7", "2..3,7 2..3,7 2..3 7"}, {"fzn_sort([x0, x1, x2], [x3, x4, x5])", "8..9 1..2 0..9 0..99 0..99 0..5", "fail"}, {"fzn_sort([x0, x1], [x2, x3])", "5..9 0..9 0..4 0..9", "5..9 0..9 0..4 5..9"}, {"fzn_sort([x0, x1], [x2, x3])", "1,3 1,3 2..3 0..9", "3 3 3 3"}, {"fzn_sort([x0], [x1])", "1..3 2..9", "2..3 2..3"}, {"fzn_sort([x0, x1], [x0, x1])", "0..9 0..5", "0..5 0..5"}, {"fzn_sort([], [])", "0..9", "same"}, {"fzn_sort([x0, x1], [x2, x3])", "1..2 1..2 3..4 3..4", "fail"},
		{"fzn_increasing_int([x0, x1, x2])", "3..9 0..9 0..5", "3..5 3..5 3..5"}, {"fzn_increasing_int([x0, x1])", "3..9 0..2", "fail"}, {"fzn_strictly_increasing_int([x0, x1, x2])", "3..9 0..9 0..5", "3 4 5"}, {"fzn_strictly_increasing_int([x0, x1, x2])", "3..9 0..9 0..4", "fail"}, {"fzn_strictly_increasing_int([x0, x1, x0])", "-1000000..1000000 -1000000..1000000", "fail"}, {"fzn_strictly_increasing_int([x0, x1])", "-1000000..1000000 -1000000..1000000", "-1000000..999999 -999999..1000000"}, {"fzn_decreasing_int([x0, x1, x2])", "0..5 0..9 3..9", "3..5 3..5 3..5"}, {"fzn_decreasing_int([x0, 4, x1])", "0..5 0..9", "4..5 0..4"}, {"fzn_increasing_int([x0, x1, x0])", "0..2,6..9 1..7", "1..2,6..7 1..2,6..7"}, {"fzn_increasing_int([x0, x1, x0, x2, x1])", "0,2,4 1..4 2..9", "2,4 2,4 2,4"}, {"fzn_increasing_int([x0])", "1..2", "same"}, {"fzn_increasing_int([])", "1..2", "same"},
		{"fzn_inverse([x0, x1, x2], [x3, x4, x5])", "0..9 0..9 0..9 0..9 0..9 0..9", "1..3 1..3 1..3 1..3 1..3 1..3"}, {"fzn_inverse([x0, x1, x2], [x3, x4, x5])", "2 1..3 1..3 1..3 1..3 1..3", "2 1,3 1,3 2..3 1 2..3"}, {"fzn_inverse([x0, x1, x2], [x3, x4, x5])", "1..2 1..2 1..3 1..3 1..3 1..3", "1..2 1..2 3 1..2 1..2 3"}, {"fzn_inverse([x0, x1], [x2, x3])", "1..2 1..2 2 1..2", "2 1 2 1"}, {"fzn_inverse([x0, x1], [x2, x3])", "0..2 3..5 1..2 1..2", "fail"}, {"fzn_inverse([x0, x0], [x1, x2])", "1..2 1..2 1..2", "fail"}, {"fzn_inverse([x1, x2], [x0, x0])", "1..2 1..2 1..2", "fail"}, {"fzn_inverse([x0, x1], [x0, x1])", "1..2 1..2", "same"}, {"fzn_inverse([x0, x1], [x0, x1])", "1..2 2", "1 2"}, {"fzn_inverse([], [])", "1..2", "same"},
		{"fzn_maximum_int(x0, [x1, x2])", "-9..9 1..3 2..5", "2..5 1..3 2..5"}, {"fzn_maximum_int(x0, [x1, x2])", "0..4 1..9 2..5", "2..4 1..4 2..4"}, {"fzn_maximum_int(x0, [x1, x2])", "4..9 1..3 2..5", "4..5 1..3 4..5"}, {"fzn_maximum_int(x0, [x1, x2])", "0..9 1,3 5,7", "5,7 1,3 5,7"}, {"fzn_maximum_int(x0, [x0, x1])", "0..4 2..9", "2..4 2..4"}, {"fzn_maximum_int(x0, [x1])", "0..4 2..9", "2..4 2..4"}, {"fzn_maximum_int(x0, [x1])", "0..4 5..9", "fail"},
		{"fzn_minimum_int(x0, [x1, x2])", "-9..9 1..3 2..5", "1..3 1..3 2..5"}, {"fzn_minimum_int(x0, [x1, x2])", "2..9 1..9 0..5", "2..5 2..9 2..5"}, {"fzn_minimum_int(x0, [x1, x2])", "0..1 1..3 2..5", "1 1 2..5"}, {"fzn_minimum_int(x0, [x1, x2])", "7..9 1..3 2..5", "fail"},
		{"fzn_member_int([x0, x1], x2)", "1..2 8..9 0..8", "1..2 8..9 1..2,8"}, {"fzn_member_int([x0, x1], x2)", "1..2 8..9 2..5", "2 8..9 2"}, {"fzn_member_int([x0, x1], x2)", "1..2 8..9 4..5", "fail"}, {"fzn_member_int([x0, x1], x0)", "1..2 8..9", "same"}, {"fzn_member_int([], x0)", "1..2", "fail"},
		{"fzn_table_int([x0, x1], [1, 2, 3, 4, 3, 4, 5, 6])", "2..9 0..9", "3,5 4,6"}, {"fzn_table_int([x0, x0], [1, 2, 3, 3, 4, 4])", "0..9", "3..4"}, {"fzn_table_int([x0, 4], [1, 2, 3, 4, 5, 4])", "0..9", "3,5"}, {"fzn_table_int([x0], [])", "0..9", "fail"}, {"fzn_table_int([x0, x1], [1, 2, 3, 4])", "1 4", "fail"}, {"fzn_table_int([x0], [7, 2000000, 7])", "0..9", "7"}, {"fzn_table_int([x0, x1], [1, 1, 2, 2, 1, 2])", "1..2 1..2", "same"},
		{"fzn_regular([x0, x1], 2, 2, [1, 2, 2, 0], 1, {2})", "0..9 0..9", "1..2 1..2"}, {"fzn_regular([x0, x1], 2, 2, [1, 2, 2, 0], 1, {2})", "2..9 0..9", "2 1"}, {"fzn_regular([x0, x1], 2, 2, [1, 2, 2, 0], 1, {2})", "2 2", "fail"}, {"fzn_regular([x0, x1], 2, 2, [1, 2, 2, 0], 1, {1})", "1..2 1..2", "1 1"}, {"fzn_regular([x0, x1, x2], 2, 2, [1, 2, 2, 0], 1, {2})", "1..2 2 1..2", "1 2 1"}, {"fzn_regular([x0], 2, 2, [1, 2, 2, 0], 2, {2})", "-1000000..1000000", "1"}, {"fzn_regular([x0], 2, 2, [1, 2, 2, 0], 1, {})", "1..2", "fail"}, {"fzn_regular([x0], 2, 2, [1, 2, 2, 0], 1, {2})", "3..9", "fail"}, {"fzn_regular([], 2, 2, [1, 2, 2, 0], 1, {2})", "3..9", "fail"}, {"fzn_regular([], 2, 2, [1, 2, 2, 0], 1, {1})", "3..9", "same"}, {"fzn_regular([x0, 2, x1], 2, 2, [1, 2, 2, 0], 1, {2})", "1..2 1..2", "1 1"}, {"fzn_regular([x0, x0], 2, 2, [1, 2, 2, 0], 1, {2})", "1..2", "fail"},
		{"fzn_increasing_int([x0, x1])", "{} 1..2", "fail"}, {"fzn_increasing_int([x1, 1])", "{} 1..2", "{} 1"}, {"fzn_member_int([x1], x2)", "1..9 2 1..3", "1..9 2 2"},
	} {
		prunes(t, s[0], s[1], s[2])
	}
}

// P12.2: arrays of MaxArray terms, over the widest domains.
func TestLongArrays(t *testing.T) {
	const n = api.MaxArray
	x, d := variables(n), spans(2*n, -maxBig, maxBig)
	var y, ones, rows []api.Term
	for i := range int64(n) {
		y, ones, rows = append(y, cons.Var(n+int(i))), append(ones, cons.Int(1)), append(rows, cons.Int(i%7))
	}
	one := func(k int64) api.Arg { return cons.One(cons.Int(k)) }
	for _, s := range []struct {
		name string
		args []api.Arg
		what int
	}{
		{"fzn_lex_less_int", []api.Arg{cons.List(x...), cons.List(y...)}, api.Same},
		{"fzn_lex_less_int", []api.Arg{cons.List(x...), cons.List(x...)}, api.Fail},
		{"fzn_lex_lesseq_int", []api.Arg{cons.List(x...), cons.List(x...)}, api.Same},
		{"fzn_sort", []api.Arg{cons.List(x...), cons.List(y...)}, api.Same},
		{"fzn_increasing_int", []api.Arg{cons.List(x...)}, api.Same},
		{"fzn_strictly_increasing_int", []api.Arg{cons.List(x...)}, api.Less},
		{"fzn_decreasing_int", []api.Arg{cons.List(x...)}, api.Same},
		{"fzn_inverse", []api.Arg{cons.List(x...), cons.List(y...)}, api.Less},
		{"fzn_maximum_int", []api.Arg{cons.One(y[0]), cons.List(x...)}, api.Same},
		{"fzn_minimum_int", []api.Arg{one(7), cons.List(x...)}, api.Less},
		{"fzn_member_int", []api.Arg{cons.List(x...), one(7)}, api.Same},
		{"fzn_table_int", []api.Arg{cons.List(x...), cons.List(rows...)}, api.Less},
		{"fzn_table_int", []api.Arg{cons.List(x[:2]...), cons.List(rows...)}, api.Less},
		{"fzn_table_int", []api.Arg{cons.List(x...), cons.List()}, api.Fail},
		{"fzn_regular", []api.Arg{cons.List(x...), one(1), one(n), cons.List(ones...), one(1), cons.One(cons.Set(1))}, api.Less},
		{"fzn_regular", []api.Arg{cons.List(x...), one(n), one(1), cons.List(ones...), one(n), cons.One(cons.Set(2))}, api.Fail},
	} {
		if got, what, e := seq.Prune(api.Con{Name: s.name, Args: s.args}, d); e != api.OK || what != s.what || (what == api.Fail) != (len(got) == 0) {
			t.Error(s.name, what, e)
		}
	}
}
