package setcon_test

import (
	"testing"

	"jigsaw/api"
	"jigsaw/cons"
	"jigsaw/setcon"
)

// holds asks if a constraint holds of values.
func holds(t *testing.T, c api.Con, want bool, v ...api.Val) {
	t.Helper()
	if ok, e := setcon.Holds(c, v); ok != want || e != api.OK {
		t.Errorf("Holds %s of %v: %v, %d", cons.Text(c), v, ok, e)
	}
}

// The chapter's examples.
func TestExamples(t *testing.T) {
	holds(t, parsed(t, "set_card(x0, 2)"), true, set([]int64{1, 3}))
	holds(t, parsed(t, "set_union(x0, x1, x2)"), true, set([]int64{1}), set([]int64{2}), set([]int64{1, 2}))
	prunes(t, "set_in(x0, {1,3})", "0..9", "1,3")
	prunes(t, "set_subset(x0, x1)", "{2} {}{1,2}", "{2} {2}{1,2}")
}

// meanings is constraints of constants, by whether they hold.
func meanings() map[bool][]string {
	return map[bool][]string{
		true: {
			"set_in(3, {1,3})", "set_in(-1000000, {-1000000,1000000})", "set_in_reif(3, {1,3}, 1)", "set_in_reif(2, {1,3}, 0)", "set_in_reif(0, {}, 0)", "set_in_imp(3, {1,3}, 1)", "set_in_imp(3, {1,3}, 0)", "set_in_imp(2, {1,3}, 0)",
			"set_card({}, 0)", "set_card({5}, 1)", "set_card({-1,0,5}, 3)",
			"set_eq({}, {})", "set_eq({1,2}, {1,2})", "set_ne({1,2}, {1})", "set_ne({}, {0})", "set_subset({}, {})", "set_subset({}, {1})", "set_subset({1,3}, {1,2,3})", "set_subset({1}, {1})", "set_superset({}, {})", "set_superset({1}, {})", "set_superset({1,2,3}, {1,3})",
			"set_le({}, {})", "set_le({}, {0})", "set_le({1}, {1,2})", "set_le({1,2}, {1,2})", "set_le({1,2,9}, {1,3})", "set_le({-1,5}, {0})", "set_lt({}, {-1})", "set_lt({1}, {1,2})", "set_lt({1,2,9}, {1,3})", "set_lt({-5}, {-4,0})",
			"set_eq_reif({1}, {1}, 1)", "set_eq_reif({1}, {2}, 0)", "set_ne_reif({1}, {1}, 0)", "set_ne_reif({1}, {}, 1)", "set_subset_reif({1}, {1,2}, 1)", "set_subset_reif({1,2}, {1}, 0)", "set_superset_reif({1,2}, {1}, 1)", "set_superset_reif({1}, {1,2}, 0)",
			"set_le_reif({1}, {1}, 1)", "set_le_reif({1,2}, {1}, 0)", "set_lt_reif({1}, {1}, 0)", "set_lt_reif({1}, {1,2}, 1)",
			"set_union({}, {}, {})", "set_union({1,3}, {2,3}, {1,2,3})", "set_intersect({1,3}, {2,3}, {3})", "set_intersect({1}, {2}, {})", "set_diff({1,3}, {2,3}, {1})", "set_diff({}, {1}, {})", "set_diff({1}, {}, {1})", "set_symdiff({1,3}, {2,3}, {1,2})", "set_symdiff({1}, {1}, {})",
		},
		false: {
			"set_in(2, {1,3})", "set_in(0, {})", "set_in_reif(3, {1,3}, 0)", "set_in_reif(2, {1,3}, 1)", "set_in_imp(2, {1,3}, 1)",
			"set_card({}, 1)", "set_card({}, -1)", "set_card({1,2}, 1)", "set_card({1,2}, 65)", "set_card({1,2}, -2)", "set_card({1}, 1000000)", "set_card({1}, -1000000)",
			"set_eq({}, {0})", "set_eq({1,2}, {1,3})", "set_ne({1,2}, {1,2})", "set_ne({}, {})", "set_subset({1}, {})", "set_subset({1,4}, {1,2,3})", "set_superset({}, {1})", "set_superset({1,2,3}, {1,4})",
			"set_le({0}, {})", "set_le({1,2}, {1})", "set_le({1,3}, {1,2,9})", "set_lt({}, {})", "set_lt({1,2}, {1,2})", "set_lt({1,2}, {1})", "set_lt({2}, {1,2})",
			"set_eq_reif({1}, {1}, 0)", "set_ne_reif({1}, {1}, 1)", "set_subset_reif({1}, {1,2}, 0)", "set_superset_reif({1}, {1,2}, 1)", "set_le_reif({1,2}, {1}, 1)", "set_lt_reif({1}, {1}, 1)",
			"set_union({1}, {2}, {1})", "set_union({1}, {2}, {1,2,3})", "set_intersect({1,3}, {2,3}, {})", "set_intersect({1}, {1}, {1,2})", "set_diff({1,3}, {2,3}, {1,3})", "set_diff({1}, {2}, {})", "set_symdiff({1,3}, {2,3}, {1,2,3})", "set_symdiff({1}, {1}, {1})",
		},
	}
}

// P10.1, P10.4: what they mean; Prune decides alike.
func TestMeanings(t *testing.T) {
	for want, l := range meanings() {
		for _, text := range l {
			c := parsed(t, text)
			holds(t, c, want)
			if d, what, e := setcon.Prune(c, nil); len(d) > 0 || e != api.OK || (what == api.Same) != want || (what == api.Fail) == want {
				t.Error("Prune", text, d, what, e)
			}
			moved, v, d := lifted(c)
			holds(t, moved, want, v...)
			got, what, e := setcon.Prune(moved, d)
			if e != api.OK || want && (what != api.Same || told(got) != told(d)) || !want && (what != api.Fail || len(got) > 0) {
				t.Error("Prune of variables", text, got, what, e)
			}
		}
	}
}

// lifted is a constraint with a variable instead of each constant, and the values and domains of these.
func lifted(c api.Con) (api.Con, []api.Val, []api.Dom) {
	out := cons.Copy(c)
	var v []api.Val
	var d []api.Dom
	for i, a := range c.Args {
		x := a.L[0].C
		out.Args[i].L[0] = cons.Var(len(v))
		v = append(v, x)
		if x.Set {
			d = append(d, api.Dom{Set: true, Lo: x.S, Up: x.S, Least: len(x.S), Most: len(x.S)})
		} else {
			d = append(d, api.Dom{R: []api.Range{{Lo: x.N, Hi: x.N}}})
		}
	}
	return out, v, d
}

// P10.1: a truth that is neither 0 nor 1: as a value it makes nothing hold, as a constant the constraint can not be.
func TestNoTruths(t *testing.T) {
	for text, good := range map[string]int64{
		"set_in_reif(1, {1}, x0)": 1, "set_in_imp(1, {1}, x0)": 0, "set_eq_reif({1}, {2}, x0)": 0, "set_ne_reif({1}, {2}, x0)": 1, "set_subset_reif({}, {2}, x0)": 1, "set_superset_reif({}, {2}, x0)": 0, "set_le_reif({2}, {1}, x0)": 0, "set_lt_reif({1}, {2}, x0)": 1,
	} {
		c := parsed(t, text)
		holds(t, c, true, api.Val{N: good})
		for _, wrong := range []int64{-maxBig, -1, 2, maxBig} {
			holds(t, c, false, api.Val{N: wrong})
			constant := cons.Copy(c)
			constant.Args[2] = cons.One(cons.Int(wrong))
			if ok, e := setcon.Holds(constant, nil); ok || e != api.ErrCon {
				t.Error("Holds", cons.Text(constant), ok, e)
			}
			if d, what, e := setcon.Prune(constant, nil); d != nil || what != 0 || e != api.ErrCon {
				t.Error("Prune", cons.Text(constant), d, what, e)
			}
		}
		prunes(t, text, "2..9", "fail")
		prunes(t, text, "-9..-1", "fail")
	}
	prunes(t, "set_in_imp(1, {1}, x0)", "-9..9", "0..1")
	prunes(t, "set_eq_reif({1}, {2}, x0)", "-9..9", "0")
	prunes(t, "set_in_imp(x0, {1,5}, x1)", "3..7 -9..9", "3..7 0..1")
}

// P10.1, P10.4: what is made of two sets may be more than a set: it is no set then, and not the empty one.
func TestTooMany(t *testing.T) {
	s, one, other := run(0, api.MaxElems), run(64, 1), run(100, api.MaxElems)
	full := func(l []int64) api.Dom {
		return api.Dom{Set: true, Lo: l, Up: l, Least: len(l), Most: len(l)}
	}
	for _, name := range []string{"set_union", "set_symdiff"} {
		c := among(name, cons.Var(0), cons.Var(1), cons.Var(2))
		for _, l := range [][2][]int64{{s, one}, {one, s}, {s, other}} {
			for _, u := range [][]int64{nil, s, one, other} {
				holds(t, c, false, set(l[0]), set(l[1]), set(u))
				if d, what, e := setcon.Prune(c, []api.Dom{full(l[0]), full(l[1]), full(u)}); len(d) > 0 || what != api.Fail || e != api.OK {
					t.Error("Prune", name, what, e)
				}
			}
			any := api.Dom{Set: true, Up: run(0, 9), Most: 9}
			if d, what, e := setcon.Prune(c, []api.Dom{full(l[0]), full(l[1]), any}); len(d) > 0 || what != api.Fail || e != api.OK {
				t.Error("Prune, one is left", name, what, e)
			}
		}
		holds(t, c, true, set(s[1:]), set(s[:1]), set(s))
	}
	holds(t, among("set_intersect", cons.Var(0), cons.Var(1), cons.Var(2)), true, set(s), set(other), set(nil))
	holds(t, among("set_diff", cons.Var(0), cons.Var(1), cons.Var(2)), true, set(s), set(other), set(s))
	wide := api.Dom{Set: true, Lo: s, Up: s, Least: 64, Most: 64}
	loose := api.Dom{Set: true, Up: append(s[63:64:64], other[:63]...), Most: 64}
	got, what, e := setcon.Prune(among("set_union", cons.Var(0), cons.Var(1), cons.Var(2)), []api.Dom{wide, loose, wide})
	if e != api.OK || what != api.Less || told(got[1:2]) != "{}{63}0..1" {
		t.Error("Prune", what, e)
	}
}
