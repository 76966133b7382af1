package arith_test

import (
	"slices"
	"strings"
	"testing"

	"jigsaw/api"
	"jigsaw/arith"
	"jigsaw/cons"
	"jigsaw/dom"
)

const maxBig = int64(api.Big)

// parsed is the constraint of a text that can be read.
func parsed(t *testing.T, s string) api.Con {
	t.Helper()
	c, e := cons.Parse(s)
	if e != api.OK {
		t.Fatal("Parse", s, e)
	}
	return c
}

// doms is domains of whole numbers as text, with a blank between.
func doms(t *testing.T, s string) []api.Dom {
	t.Helper()
	var out []api.Dom
	for _, text := range strings.Fields(s) {
		l, e := dom.Parse(text)
		if e != api.OK {
			t.Fatal("Parse", text, e)
		}
		out = append(out, api.Dom{R: l})
	}
	return out
}

func told(d []api.Dom) string {
	var out []string
	for _, x := range d {
		out = append(out, dom.Text(x.R))
	}
	return strings.Join(out, " ")
}

// prunes asks what becomes of domains: other ones, same, fail, or over.
func prunes(t *testing.T, text, from, want string) {
	t.Helper()
	d := doms(t, from)
	got, what, e := arith.Prune(parsed(t, text), d)
	answer := told(got)
	switch {
	case e == api.ErrOver && what == 0 && got == nil:
		answer = "over"
	case e != api.OK:
		t.Error(text, from, "error", e)
	case what == api.Fail && len(got) == 0:
		answer = "fail"
	case what == api.Same && answer == told(d):
		answer = "same"
	case what != api.Less:
		t.Error(text, from, "what became of it:", what)
	}
	if answer != want {
		t.Errorf("Prune %s, %s: %s; want %s", text, from, answer, want)
	}
}

// The chapter's examples.
func TestExamples(t *testing.T) {
	prunes(t, "int_div(-7, 2, x0)", "-9..9", "-3")
	prunes(t, "array_int_element(x0, [5, 7, 5], x1)", "0..9 5", "1,3 5")
	prunes(t, "int_pow(10, 20, x0)", "-9..9", "over")
}

// P8.1: what they mean, by hand: x0 from -2 to 4 with which it holds.
func TestHolds(t *testing.T) {
	all := []int64{-2, -1, 0, 1, 2, 3, 4}
	for _, c := range []struct {
		text string
		yes  []int64
	}{
		{"int_plus(1, 2, x0)", []int64{3}}, {"int_plus(x0, x0, 4)", []int64{2}}, {"int_times(-1, 2, x0)", []int64{-2}}, {"int_times(x0, x0, 4)", []int64{-2, 2}}, {"int_times(x0, 0, 0)", all},
		{"int_div(7, 2, x0)", []int64{3}}, {"int_div(-3, 2, x0)", []int64{-1}}, {"int_div(3, -2, x0)", []int64{-1}}, {"int_div(7, 0, x0)", nil}, {"int_div(0, x0, 0)", []int64{-2, -1, 1, 2, 3, 4}}, {"int_div(x0, x0, 1)", []int64{-2, -1, 1, 2, 3, 4}},
		{"int_mod(7, 2, x0)", []int64{1}}, {"int_mod(-7, 2, x0)", []int64{-1}}, {"int_mod(7, -2, x0)", []int64{1}}, {"int_mod(7, 0, x0)", nil}, {"int_mod(4, x0, 0)", []int64{-2, -1, 1, 2, 4}},
		{"int_min(3, x0, 2)", []int64{2}}, {"int_min(2, x0, 2)", []int64{2, 3, 4}}, {"int_max(3, x0, 3)", []int64{-2, -1, 0, 1, 2, 3}}, {"int_max(x0, 1, 2)", []int64{2}},
		{"int_pow(2, x0, 4)", []int64{2}}, {"int_pow(x0, 2, 4)", []int64{-2, 2}}, {"int_pow(0, x0, 0)", []int64{1, 2, 3, 4}}, {"int_pow(0, x0, 1)", []int64{0}}, {"int_pow(2, x0, 0)", []int64{-2, -1}},
		{"int_pow(x0, -1, 0)", []int64{-2, 2, 3, 4}}, {"int_pow(x0, -1, 1)", []int64{1}}, {"int_pow(x0, -1, -1)", []int64{-1}}, {"int_pow(x0, 0, 1)", all}, {"int_pow(-1, x0, -1)", []int64{-1, 1, 3}}, {"int_pow(x0, x0, 4)", []int64{2}},
		{"int_abs(x0, 2)", []int64{-2, 2}}, {"int_abs(-2, x0)", []int64{2}}, {"int_abs(x0, x0)", []int64{0, 1, 2, 3, 4}}, {"int_abs(x0, -1)", nil},
		{"array_int_element(x0, [5, 7, 5], 5)", []int64{1, 3}}, {"array_int_element(x0, [], 5)", nil}, {"array_int_element(2, [5, 3], x0)", []int64{3}}, {"array_int_element(0, [1, 2], x0)", nil}, {"array_int_element(3, [1, 2], x0)", nil},
		{"array_int_element(x0, [3, 2, 3], x0)", []int64{2, 3}}, {"array_int_element(1, [1000000000], x0)", nil},
		{"array_var_int_element(x0, [x0, 2, 2], 2)", []int64{2, 3}}, {"array_var_int_element(2, [5, x0], 3)", []int64{3}}, {"array_var_int_element(1, [3, x0], x0)", []int64{3}},
		{"array_bool_element(x0, [1, 0, 1], 0)", []int64{2}}, {"array_bool_element(1, [1, 0], x0)", []int64{1}},
		{"array_var_bool_element(1, [1, x0], 1)", []int64{0, 1}}, {"array_var_bool_element(2, [1, x0], x0)", []int64{0, 1}}, {"array_var_bool_element(x0, [0, 1], 1)", []int64{2}},
		{"array_set_element(x0, [{1}, {}, {1}], {1})", []int64{1, 3}}, {"array_set_element(x0, [{1}, {}], {})", []int64{2}}, {"array_set_element(x0, [{1}, {2}], {1,2})", nil},
	} {
		for _, n := range all {
			if ok, e := arith.Holds(parsed(t, c.text), []api.Val{{N: n}}); ok != slices.Contains(c.yes, n) || e != api.OK {
				t.Errorf("Holds %s of %d: %v, %d", c.text, n, ok, e)
			}
		}
	}
}

// P8.1: where it can not be said.
func TestHoldsBeyond(t *testing.T) {
	for _, c := range []struct {
		text string
		ok   bool
		e    api.Errno
	}{
		{"int_pow(10, 20, 0)", false, api.ErrOver}, {"int_pow(10, 18, 0)", false, api.OK}, {"int_pow(10, 19, 0)", false, api.ErrOver}, {"int_pow(2, 63, 0)", false, api.ErrOver}, {"int_pow(-2, 63, 0)", false, api.OK}, {"int_pow(-2, 64, 0)", false, api.ErrOver},
		{"int_pow(1000000, 1000000, 1)", false, api.ErrOver}, {"int_pow(1, 1000000, 1)", true, api.OK}, {"int_pow(-1, 999999, -1)", true, api.OK}, {"int_pow(1000000, -1000000, 0)", true, api.OK}, {"int_pow(0, -1, 0)", false, api.OK}, {"int_pow(0, -1, 1)", false, api.OK}, {"int_pow(0, 0, 1)", true, api.OK},
		{"int_times(1000000, 1000000, 0)", false, api.OK}, {"int_plus(1000000, 1000000, 0)", false, api.OK}, {"int_div(-1000000, -1, 1000000)", true, api.OK}, {"int_abs(-1000000, 1000000)", true, api.OK},
	} {
		if ok, e := arith.Holds(parsed(t, c.text), nil); ok != c.ok || e != c.e {
			t.Errorf("Holds %s: %v, %d", c.text, ok, e)
		}
		got, what, e := arith.Prune(parsed(t, c.text), nil)
		want := map[bool]int{true: api.Same, false: api.Fail}[c.ok]
		if c.e != api.OK {
			want = 0
		}
		if len(got) > 0 || what != want || e != c.e {
			t.Errorf("Prune %s: %v, %d, %d", c.text, got, what, e)
		}
	}
}

// P8.2 to P8.5: what becomes of domains.
func TestPrune(t *testing.T) {
	prunes(t, "int_plus(x0, x1, x2)", "1..900000 2..900000 0..9", "1..7 2..8 3..9")
	prunes(t, "int_plus(x0, x1, x2)", "1,5 10,20 0..99", "1,5 10,20 11,15,21,25")
	prunes(t, "int_times(x0, x1, x2)", "2..900000 3..900000 0..20", "2..6 3..10 6,8..10,12,14..16,18,20")
	prunes(t, "int_times(x0, x1, x2)", "-5000..5000 -5000..5000 7..9", "-9..-7,-4..-1,1..4,7..9 -9..-7,-4..-1,1..4,7..9 7..9")
	prunes(t, "int_times(x0, x1, x2)", "-5000..5000 -5000..5000 0..9", "same")
	prunes(t, "int_times(x0, x0, x1)", "-3..3 5..6", "fail")
	prunes(t, "int_div(x0, x1, x2)", "-5000..5000 0 -9..9", "fail")
	prunes(t, "int_div(x0, x1, x2)", "-5000..5000 0..900 100..200", "100..5000 1..50 100..200")
	prunes(t, "int_div(x0, x1, x2)", "-5000..5000 -900..0 100..200", "-5000..-100 -50..-1 100..200")
	prunes(t, "int_div(x0, x1, x2)", "-5000..5000 -900..900 100..200", "-5000..5000 -50..-1,1..50 100..200")
	prunes(t, "int_div(x0, x1, x2)", "-5000..5000 2..900 -200..-100", "-5000..-200 2..50 -200..-100")
	prunes(t, "int_div(x0, x1, x2)", "-5000..5000 2..900 -1..1", "-1799..1799 2..900 -1..1")
	prunes(t, "int_div(x0, 3, x1)", "-500000..500000 2..3", "6..11 2..3")
	prunes(t, "int_mod(x0, x1, x2)", "-5000..5000 0 -9..9", "fail")
	prunes(t, "int_mod(x0, x1, x2)", "0..5000 -4..3 -9..9", "0..5000 -4..-1,1..3 0..3")
	prunes(t, "int_mod(x0, 5, 3)", "0..20", "3,8,13,18")
	prunes(t, "int_min(x0, x1, x2)", "5..9000 7..9000 0..8", "5..9000 7..9000 5..8")
	prunes(t, "int_min(x0, x1, x2)", "5..9000 9..9000 0..8", "5..8 9..9000 5..8")
	prunes(t, "int_max(x0, x1, x2)", "-9000..-5 -9000..-7 -8..0", "-9000..-5 -9000..-7 -8..-5")
	prunes(t, "int_max(x0, x1, x2)", "-9000..-9 -9000..-5 -8..0", "-9000..-9 -8..-5 -8..-5")
	prunes(t, "int_abs(x0, x1)", "-9000..9000 3..5", "-5..-3,3..5 3..5")
	prunes(t, "int_abs(x0, x1)", "-9000..-8 -3..9000", "-9000..-8 8..9000")
	prunes(t, "int_abs(x0, x1)", "-9000..-8 -3..7", "fail")
	prunes(t, "int_abs(x0, x0)", "-9..9", "0..9")
	prunes(t, "int_pow(x0, 2, 49)", "-1000000..1000000", "-7,7")
	prunes(t, "int_pow(x0, x1, x2)", "-3..3 2..3 20..30", "3 3 27")
	prunes(t, "int_plus(x0, x1, x2)", "1..5000 2..6000 -9..900000", "1..5000 2..6000 3..11000")
	prunes(t, "int_times(x0, x1, x2)", "-10..500 2..600 -90000..900000", "-10..500 2..600 -6000..300000")
	prunes(t, "int_times(x0, x1, x2)", "-5000..5000 -5000..5000 -90000..-1,1..90000", "-5000..-1,1..5000 -5000..-1,1..5000 -90000..-1,1..90000")
	prunes(t, "int_div(x0, x1, x2)", "-5000..400 2..900 -9000..9000", "-5000..400 2..900 -2500..200")
	prunes(t, "int_div(x0, x1, x2)", "-5000..400 -2..900 -9000..9000", "-5000..400 -2..-1,1..900 -5000..5000")
	prunes(t, "int_min(x0, x1, x2)", "-5000..400 -3000..900 -9..9000", "-9..400 -9..900 -9..400")
	prunes(t, "int_min(x0, x1, x2)", "9..5000 1..5000 0..8", "9..5000 1..8 1..8")
	prunes(t, "int_max(x0, x1, x2)", "-400..5000 -900..3000 -9000..9", "-400..9 -900..9 -400..9")
	prunes(t, "int_max(x0, x1, x2)", "-5000..-1 -5000..-9 -8..0", "-8..-1 -5000..-9 -8..-1")
	prunes(t, "int_abs(x0, x1)", "-9000..9000 3000..8000", "-8000..-3000,3000..8000 3000..8000")
	prunes(t, "int_pow(x0, x1, x2)", "0..2000 0..2 -900000..900000", "0..2000 0..2 0..900000")
	prunes(t, "int_pow(x0, x1, x2)", "-900..900 1..2 -900000..900000", "-900..900 1..2 -810000..810000")
	prunes(t, "int_pow(x0, x1, x2)", "-2000..2000 1..2 -800..900", "-900..900 1..2 -800..900")
	prunes(t, "int_pow(x0, 1, x1)", "{} 1..2", "fail")
	prunes(t, "int_plus(1, 2, 4)", "1..2", "fail")
	prunes(t, "int_plus(1, 2, 3)", "1..2", "same")
}

// P8.2, P8.4, P8.5: powers that go beyond.
func TestPruneBeyond(t *testing.T) {
	prunes(t, "int_pow(10, x0, x1)", "20 7", "over")
	prunes(t, "int_pow(10, x0, 7)", "0..18", "fail")
	prunes(t, "int_pow(10, x0, 100)", "0..18", "2")
	prunes(t, "int_pow(10, x0, 100)", "0..19", "over") // one value suffices
	prunes(t, "int_pow(x0, 20, 7)", "0..9", "over")
	prunes(t, "int_pow(x0, 20, 1)", "0..8", "1")
	prunes(t, "int_pow(x0, 63, x1)", "-2..0 -1", "-1 -1")
	prunes(t, "int_pow(x0, 63, x1)", "0..2 1", "over")
	prunes(t, "int_pow(10, 20, x0)", "{}", "fail") // no assignment, so nothing that can not be said
	prunes(t, "int_pow(x0, 20, x1)", "10 {}", "fail")
	prunes(t, "int_pow(x0, x0, 4)", "-9..15", "2")
	prunes(t, "int_pow(x0, x0, 4)", "-9..16", "over")
	prunes(t, "int_pow(x0, x1, 1)", "1..1000 0..1000", "same")    // it may be said of each that it holds, or nothing
	prunes(t, "int_pow(x0, x1, x2)", "9..11 19..20 1..5", "same") // of 9 and 19 it can be said: but of each number there is another one of which it can not
	prunes(t, "int_pow(x0, x1, x2)", "10..11 19..20 1..5", "over")
	prunes(t, "int_pow(2, x0, x1)", "61..64 0..5", "63..64 0..5")
	prunes(t, "int_pow(2, x0, x1)", "1,64 0..5", "same") // of 64 it can not be said, whatever x1 is
	prunes(t, "int_pow(2, x0, x1)", "4,64 0..5", "over")
}
