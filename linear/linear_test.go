package linear_test

import (
	"strings"
	"testing"

	"jigsaw/api"
	"jigsaw/cons"
	"jigsaw/dom"
	"jigsaw/linear"
)

const maxBig, maxCoef = int64(api.Big), int64(api.Coef)

// parsed is the constraint of a text that can be read.
func parsed(t *testing.T, s string) api.Con {
	t.Helper()
	c, e := cons.Parse(s)
	if e != api.OK {
		t.Fatal("Parse", s, e)
	}
	return c
}

// doms is domains of whole numbers as text, with a blank between.
func doms(t *testing.T, s string) []api.Dom {
	t.Helper()
	var out []api.Dom
	for _, text := range strings.Fields(s) {
		l, e := dom.Parse(text)
		if e != api.OK {
			t.Fatal("Parse", text, e)
		}
		out = append(out, api.Dom{R: l})
	}
	return out
}

func told(d []api.Dom) string {
	var out []string
	for _, x := range d {
		out = append(out, dom.Text(x.R))
	}
	return strings.Join(out, " ")
}

// prunes asks what becomes of domains: other ones, same, or fail.
func prunes(t *testing.T, text, from, want string) {
	t.Helper()
	d := doms(t, from)
	got, what, e := linear.Prune(parsed(t, text), d)
	answer := told(got)
	switch {
	case what == api.Fail && len(got) == 0:
		answer = "fail"
	case what == api.Same && answer == told(d):
		answer = "same"
	case what != api.Less:
		t.Error(text, from, "what became of it:", what)
	}
	if answer != want || e != api.OK {
		t.Errorf("Prune %s, %s: %s, %d; want %s", text, from, answer, e, want)
	}
}

// holds asks if a constraint holds of numbers.
func holds(t *testing.T, text string, want bool, numbers ...int64) {
	t.Helper()
	var v []api.Val
	for _, n := range numbers {
		v = append(v, api.Val{N: n})
	}
	if ok, e := linear.Holds(parsed(t, text), v); ok != want || e != api.OK {
		t.Errorf("Holds %s of %v: %v, %d", text, numbers, ok, e)
	}
}

// The chapter's examples.
func TestExamples(t *testing.T) {
	prunes(t, "int_le(x0, x1)", "1..9 0..4", "1..4 1..4")
	prunes(t, "int_lin_eq([2, 3], [x0, x1], 12)", "0..6 0..6", "0..6 0..4")
	prunes(t, "int_eq(x0, 5)", "1..4", "fail")
}

// P7.1: what they mean, by hand.
func TestHolds(t *testing.T) {
	for _, c := range []struct {
		text string
		yes  []int64 // values of x0 from -1 to 2 with which it holds
	}{
		{"int_eq(x0, 1)", []int64{1}}, {"int_ne(x0, 1)", []int64{-1, 0, 2}}, {"int_le(x0, 1)", []int64{-1, 0, 1}}, {"int_lt(x0, 1)", []int64{-1, 0}},
		{"int_le(1, x0)", []int64{1, 2}}, {"int_lt(1, x0)", []int64{2}},
		{"int_eq_reif(x0, 1, 1)", []int64{1}}, {"int_eq_reif(x0, 1, 0)", []int64{-1, 0, 2}}, {"int_lt_reif(x0, 1, 0)", []int64{1, 2}}, {"int_ne_reif(x0, 1, 0)", []int64{1}}, {"int_le_reif(x0, 1, 0)", []int64{2}},
		{"int_eq_imp(x0, 1, 1)", []int64{1}}, {"int_eq_imp(x0, 1, 0)", []int64{-1, 0, 1, 2}}, {"int_lt_imp(x0, 1, 1)", []int64{-1, 0}}, {"int_le_imp(x0, 1, 0)", []int64{-1, 0, 1, 2}}, {"int_ne_imp(x0, 1, 1)", []int64{-1, 0, 2}},
		{"int_eq_reif(0, 1, x0)", []int64{0}}, {"int_eq_reif(1, 1, x0)", []int64{1}}, {"int_eq_imp(0, 1, x0)", []int64{0}}, {"int_eq_imp(1, 1, x0)", []int64{0, 1}},
		{"int_lin_eq([2], [x0], 2)", []int64{1}}, {"int_lin_ne([2], [x0], 2)", []int64{-1, 0, 2}}, {"int_lin_le([2], [x0], 1)", []int64{-1, 0}}, {"int_lin_le([-2], [x0], 1)", []int64{0, 1, 2}},
		{"int_lin_le_reif([2], [x0], 1, 0)", []int64{1, 2}}, {"int_lin_eq_imp([1, 1], [x0, x0], 4, 1)", []int64{2}}, {"int_lin_ne_imp([1], [x0], 0, 0)", []int64{-1, 0, 1, 2}},
		{"int_lin_eq([0], [x0], 0)", []int64{-1, 0, 1, 2}}, {"int_lin_ne([0], [x0], 0)", nil}, {"int_lin_eq([1, -1], [x0, x0], 0)", []int64{-1, 0, 1, 2}}, {"int_lt(x0, x0)", nil}, {"int_le(x0, x0)", []int64{-1, 0, 1, 2}},
		{"bool_lin_le([1], [x0], 9)", []int64{0, 1}}, {"bool_lin_eq([2, 3], [1, x0], 5)", []int64{1}}, {"bool_lin_eq([2, 3], [1, 0], x0)", []int64{2}}, {"bool_lin_eq([1], [x0], x0)", []int64{0, 1}},
		{"int_lin_eq([], [], 0)", []int64{-1, 0, 1, 2}}, {"int_lin_eq([], [], 1)", nil}, {"int_lin_ne([], [], 1)", []int64{-1, 0, 1, 2}}, {"int_lin_le([], [], -1)", nil}, {"bool_lin_eq([], [], x0)", []int64{0}}, {"bool_lin_le([], [], 0)", []int64{-1, 0, 1, 2}},
	} {
		for n := int64(-1); n <= 2; n++ {
			want := false
			for _, y := range c.yes {
				want = want || y == n
			}
			holds(t, c.text, want, n)
		}
	}
}

// P7.1: numbers at all limits: no sum of them is beyond.
func TestHoldsAtTheLimits(t *testing.T) {
	var coefs, terms []api.Term
	for range api.MaxArray {
		coefs, terms = append(coefs, cons.Int(maxCoef)), append(terms, cons.Var(0))
	}
	c := api.Con{Name: "int_lin_le", Args: []api.Arg{cons.List(coefs...), cons.List(terms...), cons.One(cons.Int(maxCoef))}}
	for _, x := range []int64{-maxBig, -1, 0, 1, maxBig} {
		if ok, e := linear.Holds(c, []api.Val{{N: x}}); ok != (x <= 0) || e != api.OK {
			t.Error("Holds", x, ok, e)
		}
	}
	for i := range coefs[:api.MaxArray/2] {
		c.Args[0].L[i] = cons.Int(-maxCoef)
	}
	c.Name = "int_lin_eq"
	c.Args[2] = cons.One(cons.Int(0))
	for _, x := range []int64{-maxBig, maxBig} {
		if ok, e := linear.Holds(c, []api.Val{{N: x}}); !ok || e != api.OK {
			t.Error("Holds", x, ok, e)
		}
	}
	holds(t, "int_lin_eq([1000000000, -1000000000, 1], [x0, x1, x2], 1000000000)", true, maxBig, maxBig-1, 0)
	holds(t, "int_lin_eq([1000000000, -1000000000, 1], [x0, x1, x2], 1000000000)", false, maxBig, maxBig-1, 1)
}

// P7.2 to P7.6: comparisons.
func TestComparisons(t *testing.T) {
	prunes(t, "int_eq(x0, x1)", "1..9 5..12", "5..9 5..9")
	prunes(t, "int_eq(x0, x1)", "1,3,5,7 2..3,6..9", "3,7 3,7")
	prunes(t, "int_eq(x0, x1)", "1,3,5 2,4", "fail")
	prunes(t, "int_eq(x0, x0)", "1..9", "same")
	prunes(t, "int_ne(x0, x0)", "1..9", "fail")
	prunes(t, "int_lt(x0, x0)", "1..9", "fail")
	prunes(t, "int_le(x0, x0)", "1..9", "same")
	prunes(t, "int_ne(x0, x1)", "1..9 5", "1..4,6..9 5")
	prunes(t, "int_ne(x0, x1)", "1..9 5..6", "same")
	prunes(t, "int_ne(x0, 3)", "-1000000..1000000", "-1000000..2,4..1000000")
	prunes(t, "int_ne(x0, x1)", "5 5", "fail")
	prunes(t, "int_lt(x0, x1)", "1..9 0..4", "1..3 2..4")
	prunes(t, "int_lt(x0, x1)", "1..9 1", "fail")
	prunes(t, "int_le(7, x0)", "1..9", "7..9")
	prunes(t, "int_le(x0, x1)", "{} 1..2", "fail")
	prunes(t, "int_eq(3, 4)", "1..2", "fail")
	prunes(t, "int_eq(3, 3)", "1..2", "same")
}

// P7.2 to P7.6: sums.
func TestSums(t *testing.T) {
	prunes(t, "int_lin_le([2, 3], [x0, x1], 12)", "0..9 0..9", "0..6 0..4")
	prunes(t, "int_lin_le([2, -3], [x0, x1], 0)", "3..9 0..2", "3 2")
	prunes(t, "int_lin_le([-2], [x0], -5)", "0..9", "3..9")
	prunes(t, "int_lin_le([2], [x0], -5)", "-9..9", "-9..-3")
	prunes(t, "int_lin_le([1, 1], [x0, x1], 3)", "2..9 2..9", "fail")
	prunes(t, "int_lin_le([0, 1], [x0, x1], 3)", "2..9 2..9", "2..9 2..3")
	prunes(t, "int_lin_le([0, 1], [x0, x1], 1)", "2..9 2..9", "fail")
	prunes(t, "int_lin_le([0], [x0], -1)", "2..9", "fail")
	prunes(t, "int_lin_le([2, -1, 1], [x0, x0, x1], 4)", "1..9 2..9", "1..2 2..3")
	prunes(t, "int_lin_eq([1, -1], [x0, x0], 1)", "1..9", "fail")
	prunes(t, "int_lin_eq([2], [x0], 7)", "1..9", "fail")
	prunes(t, "int_lin_eq([2], [x0], 8)", "1..9", "4")
	prunes(t, "int_lin_eq([3], [x0], 12)", "1..3,5..9", "fail")
	prunes(t, "int_lin_eq([1, 1], [x0, x1], 10)", "0..3,9..20 0..20", "0..3,9..10 0..10")
	prunes(t, "int_lin_eq([1, 1, 1], [x0, x1, 2], 4)", "0..9 1..9", "0..1 1..2")
	prunes(t, "int_lin_ne([2, 1], [x0, x1], 7)", "0..9 1", "0..2,4..9 1")
	prunes(t, "int_lin_ne([2, 1], [x0, x1], 8)", "0..9 1", "same")
	prunes(t, "int_lin_ne([2, 1], [x0, x1], 7)", "0..9 1..2", "same")
	prunes(t, "int_lin_ne([1, -1], [x0, x0], 0)", "0..9", "fail")
	prunes(t, "bool_lin_le([2, 3], [x0, x1], 2)", "0..1 0..1", "0..1 0")
	prunes(t, "bool_lin_le([2, 3], [x0, x1], 9)", "0..7 -4..1", "0..1 0..1")
	prunes(t, "bool_lin_le([1], [x0], 9)", "2..7", "fail")
	prunes(t, "bool_lin_eq([2, 3], [x0, x1], x2)", "0..1 1 0..9", "0..1 1 3..5")
	prunes(t, "bool_lin_eq([2, 3], [x0, x1], x2)", "0..1 1 4..9", "1 1 5")
	prunes(t, "int_lin_eq([], [], 0)", "0..9", "same")
	prunes(t, "int_lin_eq([], [], 1)", "0..9", "fail")
	prunes(t, "int_lin_eq([1000000000, -1000000000], [x0, x1], 1000000000)", "-1000000..1000000 -1000000..1000000", "-999999..1000000 -1000000..999999")
}

// P7.2 to P7.5: truths that hang on the rest.
func TestTruths(t *testing.T) {
	prunes(t, "int_eq_reif(x0, 5, x1)", "1..4 0..1", "1..4 0")
	prunes(t, "int_eq_reif(x0, x1, x2)", "1,3 2,4 0..1", "1,3 2,4 0")
	prunes(t, "int_eq_reif(x0, x1, x2)", "1 1 0..1", "1 1 1")
	prunes(t, "int_eq_reif(x0, x1, x2)", "1..3 1..3 0..1", "same")
	prunes(t, "int_eq_reif(x0, x1, x2)", "1..3 3..4 1", "3 3 1")
	prunes(t, "int_eq_reif(x0, x1, x2)", "1..3 3 0", "1..2 3 0")
	prunes(t, "int_ne_reif(x0, x1, x2)", "1..3 3..4 0", "3 3 0")
	prunes(t, "int_le_reif(x0, x1, x2)", "1..3 3..4 0..1", "1..3 3..4 1")
	prunes(t, "int_le_reif(x0, x1, x2)", "5..9 3..4 0..1", "5..9 3..4 0")
	prunes(t, "int_le_reif(x0, x1, x2)", "1..9 3..4 0", "4..9 3..4 0")
	prunes(t, "int_le_reif(x0, x1, x2)", "1..9 3..4 1", "1..4 3..4 1")
	prunes(t, "int_lt_reif(x0, x1, x2)", "1..9 3..4 0", "3..9 3..4 0")
	prunes(t, "int_lt_reif(x0, x1, x2)", "4..9 3..4 -3..7", "4..9 3..4 0")
	prunes(t, "int_lt_reif(x0, x1, x2)", "1..9 3..4 2..7", "fail")
	prunes(t, "int_lt_imp(x0, x1, x2)", "4..9 3..4 0..1", "4..9 3..4 0")
	prunes(t, "int_lt_imp(x0, x1, x2)", "4..9 3..4 1", "fail")
	prunes(t, "int_lt_imp(x0, x1, x2)", "1..2 3..4 0..1", "same")
	prunes(t, "int_lt_imp(x0, x1, x2)", "1..9 3..4 0", "same")
	prunes(t, "int_lt_imp(x0, x1, x2)", "1..9 3..4 1", "1..3 3..4 1")
	prunes(t, "int_lt_imp(x0, x1, x2)", "1..2 3..4 2..3", "fail")
	prunes(t, "int_eq_imp(x0, x1, x2)", "1..2 3..4 0..3", "1..2 3..4 0")
	prunes(t, "int_lin_le_reif([1, 1], [x0, x1], 5, x2)", "0..2 0..3 0..1", "0..2 0..3 1")
	prunes(t, "int_lin_le_reif([1, 1], [x0, x1], 5, x2)", "0..2 3..9 0", "0..2 4..9 0")
	prunes(t, "int_lin_eq_imp([1, 1], [x0, x1], 5, x2)", "0..2 4..9 1", "0..1 4..5 1")
	prunes(t, "int_le_reif(x0, 0, x0)", "0..1", "fail")
	prunes(t, "int_eq_reif(x0, 1, x0)", "-5..5", "0..1")
}
