package setcon_test

import (
	"math/rand/v2"
	"slices"
	"strconv"
	"strings"
	"testing"

	"jigsaw/api"
	"jigsaw/cons"
	"jigsaw/dom"
	"jigsaw/kinds"
	"jigsaw/setcon"
	"jigsaw/sets"
)

// P10.2, P10.5: what goes, by hand.
func TestPrune(t *testing.T) {
	for _, s := range [][3]string{
		{"set_in(x0, x1)", "0..9 {2}{1,2,20}", "1..2 {2}{1,2,20}"}, {"set_in(x0, x1)", "5 {}{1,5}", "5 {5}{1,5}"}, {"set_in(x0, x1)", "6 {}{1,5}", "fail"}, {"set_in(5, x0)", "{}{1,5}", "{5}{1,5}"}, {"set_in(5, x0)", "{}{1,6}", "fail"}, {"set_in(x0, x1)", "1..9 {}{1,5}", "1,5 {}{1,5}1..2"}, {"set_in(x0, {})", "1..9", "fail"}, {"set_in(x0, {2})", "-1000000..1000000", "2"},
		{"set_in_reif(x0, x1, x2)", "0..9 {2}{1,2} 0", "0..1,3..9 {2}{1,2} 0"}, {"set_in_reif(x0, x1, x2)", "1 {2}{1,2} 0", "1 {2} 0"}, {"set_in_reif(x0, x1, x2)", "2 {2}{1,2} 0..1", "2 {2}{1,2} 1"}, {"set_in_reif(x0, x1, x2)", "3..5 {2}{1,2} 0..1", "3..5 {2}{1,2} 0"}, {"set_in_reif(x0, x1, x2)", "1..5 {2}{1,2} 0..1", "same"}, {"set_in_reif(x0, x1, x2)", "1..5 {2}{1,2} 1", "1..2 {2}{1,2} 1"}, {"set_in_reif(x0, {1,2}, 0)", "-1000000..1000000", "-1000000..0,3..1000000"},
		{"set_in_imp(x0, x1, x2)", "3..5 {}{1,2} 0..1", "3..5 {}{1,2} 0"}, {"set_in_imp(x0, x1, x2)", "3..5 {}{1,2} 1", "fail"}, {"set_in_imp(x0, x1, x2)", "3..5 {}{1,2} 0", "same"}, {"set_in_imp(x0, x1, x2)", "2 {2}{1,2} 0..1", "same"}, {"set_in_imp(x0, x1, x2)", "2 {}{1,2} 1", "2 {2}{1,2} 1"},
		{"set_card(x0, x1)", "{1}{1,2,3} -9..99", "{1}{1,2,3} 1..3"}, {"set_card(x0, x1)", "{1}{1,2,3} 2", "{1}{1,2,3}2..2 2"}, {"set_card(x0, x1)", "{1}{1,2,3} -9..0", "fail"}, {"set_card(x0, x1)", "{1}{1,2,3} 4..99", "fail"}, {"set_card(x0, x1)", "{1}{1,2,3} 0,3,70", "{1,2,3} 3"}, {"set_card(x0, x1)", "{1}{1,2,3} 0..1", "{1} 1"}, {"set_card({}, x0)", "-9..99", "0"}, {"set_card(x0, -1)", "{}{1}", "fail"}, {"set_card(x0, 65)", "{}{1}", "fail"}, {"set_card(x0, 0)", "{}{1}", "{}{}0..0"},
		{"set_eq(x0, x1)", "{1}{1,2,3} {2}{1,2,4}", "{1,2} {1,2}"}, {"set_eq(x0, x1)", "{1}{1,2} {}{2,3}", "fail"}, {"set_eq(x0, {1,2})", "{}{1,2,3}", "{1,2}"}, {"set_eq(x0, x0)", "{}{1,2,3}", "same"},
		{"set_ne(x0, x1)", "{1} {}{1}", "{1} {}{}0..0"}, {"set_ne(x0, {})", "{}{1,2}", "{}{1,2}1..2"}, {"set_ne(x0, {1,2})", "{}{1,2}", "{}{1,2}0..1"}, {"set_ne(x0, {1})", "{}{1,2}", "same"}, {"set_ne(x0, x1)", "{1} {1}", "fail"}, {"set_ne(x0, x0)", "{}{1,2,3}", "fail"}, {"set_ne(x0, {})", "{}{1,2,3,4,5,6,7,8,9,10,11}", "{}{1,2,3,4,5,6,7,8,9,10,11}1..11"},
		{"set_subset(x0, x1)", "{1}{1,2,3} {}{1,2,4}", "{1}{1,2} {1}{1,2,4}"}, {"set_subset(x0, x1)", "{}{1,2,3}2..3 {}{1,2,4}0..2", "{1,2} {1,2}"}, {"set_subset(x0, x1)", "{3}{1,2,3} {}{1,2}", "fail"}, {"set_subset(x0, x1)", "{}{1,2}2..2 {5}{1,2,5}1..2", "fail"}, {"set_subset(x0, x0)", "{}{1,2}", "same"},
		{"set_superset(x0, x1)", "{}{1,2,4} {1}{1,2,3}", "{1}{1,2,4} {1}{1,2}"}, {"set_superset(x0, {1,2})", "{}{1,2,3}", "{1,2}{1,2,3}"}, {"set_superset({1}, x0)", "{}{1,2}", "{}{1}"},
		{"set_subset_reif(x0, x1, x2)", "{}{1,2} {1}{1,2} 0", "{2}{1,2} {1} 0"}, {"set_subset_reif(x0, x1, x2)", "{}{1} {1}{1,2} 0..1", "{}{1} {1}{1,2} 1"}, {"set_subset_reif(x0, x1, x2)", "{3}{1,3} {1}{1,2} 0..1", "{3}{1,3} {1}{1,2} 0"}, {"set_subset_reif(x0, x1, x2)", "{}{1,2} {}{1,2} 0..1", "same"}, {"set_superset_reif(x0, x1, x2)", "{1}{1,2} {}{1} 0..1", "{1}{1,2} {}{1} 1"},
		{"set_eq_reif(x0, x1, x2)", "{1} {2}{1,2} 0..1", "{1} {2}{1,2} 0"}, {"set_eq_reif(x0, x1, x2)", "{1} {1} 0..1", "{1} {1} 1"}, {"set_eq_reif(x0, x1, x2)", "{1} {}{1,2} 1", "{1} {1} 1"}, {"set_ne_reif(x0, x1, x2)", "{1} {}{1,2} 0", "{1} {1} 0"}, {"set_ne_reif(x0, x1, x2)", "{1} {}{2} 0..1", "{1} {}{2} 1"}, {"set_eq_reif(x0, x0, x1)", "{}{1} 0..1", "{}{1} 1"}, {"set_ne_reif(x0, x0, x1)", "{}{1} 0..1", "{}{1} 0"},
		{"set_le(x0, {1})", "{}{1,2,3}", "{}{1}"}, {"set_lt(x0, {1})", "{}{1,2,3}", "{}{}0..0"}, {"set_le({2}, x0)", "{}{1,2,3}", "{}{2,3}1..2"}, {"set_lt({2}, x0)", "{}{1,2,3}", "{3}{2,3}"}, {"set_lt({3}, x0)", "{}{1,2,3}", "fail"}, {"set_lt(x0, {})", "{}{1}", "fail"}, {"set_le(x0, {})", "{}{1}", "{}{}0..0"}, {"set_lt(x0, x0)", "{}{1}", "fail"}, {"set_le(x0, x0)", "{}{1}", "same"},
		{"set_le(x0, x1)", "{2}{1,2,3} {}{1,2}", "{2}{1,2,3} {2}{1,2}"}, {"set_le(x0, x1)", "{2}{2,3} {}{1,2}", "{2} {2}"}, {"set_le(x0, x1)", "{}{1,2} {3}", "same"},
		{"set_le_reif(x0, x1, x2)", "{}{1,2} {3} 0..1", "{}{1,2} {3} 1"}, {"set_lt_reif(x0, x1, x2)", "{3} {}{1,2} 0..1", "{3} {}{1,2} 0"}, {"set_lt_reif(x0, x1, x2)", "{1} {}{1} 0..1", "{1} {}{1} 0"}, {"set_le_reif(x0, x1, x2)", "{1} {}{1} 0..1", "same"}, {"set_le_reif(x0, x1, x2)", "{1} {}{1} 0", "{1} {}{}0..0 0"}, {"set_le_reif(x0, x1, x2)", "{}{1} {}{1} 0", "{1} {}{}0..0 0"}, {"set_lt_reif(x0, x1, x2)", "{}{1} {}{1} 0", "same"}, {"set_lt_reif(x0, x0, x1)", "{}{1} 0..1", "{}{1} 0"},
		{"set_union(x0, x1, x2)", "{1}{1,2} {}{3,4} {}{1,3}", "{1} {}{3} {1}{1,3}"}, {"set_union(x0, x1, x2)", "{}{1,2} {}{2,3} {1,2,3}", "{1}{1,2} {3}{2,3} {1,2,3}"}, {"set_union(x0, x1, x2)", "{}{1,2,3}1..1 {}{1,2,3}1..1 {}{1,2,3}", "{}{1,2,3}1..1 {}{1,2,3}1..1 {}{1,2,3}1..2"}, {"set_union(x0, x0, x1)", "{1}{1,2} {}{1,2,3}", "{1}{1,2} {1}{1,2}"},
		{"set_intersect(x0, x1, x2)", "{1}{1,2} {1}{1,3} {}{1,2,3}", "{1}{1,2} {1}{1,3} {1}"}, {"set_intersect(x0, x1, x2)", "{}{1,2,3}2..2 {}{1,2,3}2..2 {}{1,2,3}", "{}{1,2,3}2..2 {}{1,2,3}2..2 {}{1,2,3}1..2"}, {"set_intersect(x0, x1, x2)", "{}{1,2} {}{1,3} {2}{1,2}", "fail"},
		{"set_diff(x0, x1, x2)", "{1,2}{1,2,3} {}{2,3} {1}{1,2,3}", "{1,2}{1,2,3} {}{2,3} {1}{1,2,3}"}, {"set_diff(x0, x1, x2)", "{1,2} {2}{2,3} {}{1,2,3}", "{1,2} {2}{2,3} {1}"}, {"set_diff(x0, x1, x2)", "{}{1,2} {}{1,3} {1}{1,2}", "{1}{1,2} {}{3} {1}{1,2}"}, {"set_diff(x0, x0, x1)", "{}{1,2} {}{1,2}", "{}{1,2} {}{}0..0"},
		{"set_symdiff(x0, x1, x2)", "{1} {1}{1,2} {}{1,2}", "{1} {1}{1,2} {}{2}"}, {"set_symdiff(x0, x1, x2)", "{}{1,2} {}{3} {1,3}", "{1} {3} {1,3}"}, {"set_symdiff(x0, x1, x2)", "{}{1,2,3}3..3 {}{1,2,3}1..1 {}{1,2,3}0..1", "fail"}, {"set_symdiff(x0, x0, x1)", "{}{1,2} {}{1,2}", "{}{1,2} {}{}0..0"},
		{"set_eq(x0, x1)", "{}{}1..0 {}{1}", "fail"}, {"set_in(x0, x1)", "{} {}{1}", "fail"}, {"set_in(x0, x1)", "1..2 {}{}1..0", "fail"}, {"set_card(x1, x2)", "{}{}1..0 {1} 1..2", "{}{}1..0 {1} 1"},
	} {
		if s[2] == told(doms(t, s[1])) || s[2] != "fail" && s[2] != "same" && told(doms(t, s[1])) == told(doms(t, s[2])) {
			s[2] = "same"
		}
		prunes(t, s[0], s[1], s[2])
	}
}

// P10.2: domains of sets that are not tight are made so, if they are of the constraint's variables; that alone is no change.
func TestTight(t *testing.T) {
	loose := domOf(t, "{1}{1,2}2..2")
	for text, want := range map[string]string{
		"set_ne(x0, {5})": "{1,2}{1,2}2..2", "set_subset({1}, x0)": "{1,2}{1,2}2..2", "set_card(x0, 2)": "{1,2}{1,2}2..2", "set_in_imp(3, x0, 0)": "{1,2}{1,2}2..2", "set_le({}, x0)": "{1,2}{1,2}2..2", "set_in(1, {1})": "{1}{1,2}2..2",
	} {
		got, what, e := setcon.Prune(parsed(t, text), []api.Dom{loose, loose})
		if e != api.OK || what != api.Same || told(got) != want+" {1}{1,2}2..2" {
			t.Error("Prune", text, told(got), what, e)
		}
	}
	prunes(t, "set_union(x0, x1, x2)", "{}{1,2}2..2 {3}{3,4}1..1 {}{1,2,3,4,5}", "{1,2} {3} {1,2,3}")
}

// P10.5: a set that is left of at most MaxScan sets becomes the smallest domain that has all that hold. (No domain has just MaxScan sets; the most below it is 991.) Of one more nothing that holds is lost.
func TestSetLeft(t *testing.T) {
	few := map[int64]api.Dom{
		510:  {Set: true, Lo: run(3, 1), Up: run(0, 10), Least: 2, Most: 9},
		990:  {Set: true, Lo: run(3, 1), Up: run(-35, 45), Least: 43, Most: 44},
		991:  {Set: true, Up: run(0, 44), Most: 2},
		1001: {Set: true, Lo: run(0, 2), Up: run(0, 15), Least: 5, Most: 6},
	}
	others := []string{"{}", "{0,1}", "{2,43}", "{3,5,7}", "{0,1,2,3,4,5,6,7,8,9}"}
	for many, d := range few {
		if sets.Count(d) != many {
			t.Error("not", many, "sets but", sets.Count(d))
		}
		t.Run(strconv.FormatInt(many, 10), func(t *testing.T) {
			t.Parallel()
			for _, c := range overSets(others) {
				checkLeft(t, c, d)
			}
		})
	}
}

// overSets is all constraints over the set x0 alone, the others being some constants.
func overSets(others []string) []string {
	var out []string
	for name := range cons.Names() {
		if cons.Family(name) != "setcon" {
			continue
		}
		for i, a := range others {
			b := others[(i+3)%len(others)]
			switch cons.Form(name) {
			case "I,S":
				out = append(out, name+"(3, x0)", name+"(99, x0)")
			case "I,S,B":
				out = append(out, name+"(3, x0, 0)", name+"(3, x0, 1)", name+"(1, x0, 0)")
			case "S,I":
				out = append(out, name+"(x0, 2)", name+"(x0, 6)", name+"(x0, 43)")
			case "S,S":
				out = append(out, name+"(x0, "+a+")", name+"("+a+", x0)", name+"(x0, x0)")
			case "S,S,B":
				out = append(out, name+"(x0, "+a+", 0)", name+"("+a+", x0, 1)", name+"(x0, "+a+", 1)")
			case "S,S,S":
				out = append(out, name+"(x0, "+a+", "+b+")", name+"("+a+", "+b+", x0)", name+"("+a+", x0, "+b+")", name+"(x0, "+a+", x0)", name+"(x0, x0, x0)")
			}
		}
	}
	slices.Sort(out)
	return slices.Compact(out)
}

// checkLeft holds what is left of the set x0 against all its sets.
func checkLeft(t *testing.T, text string, d api.Dom) {
	t.Helper()
	c := parsed(t, text)
	var good [][]int64
	for l := range sets.Each(d) {
		if ok, _ := setcon.Holds(c, []api.Val{set(l)}); ok {
			good = append(good, l)
		}
	}
	want := hull(good)
	just := sets.Count(d) <= api.MaxScan
	got, what, e := setcon.Prune(c, []api.Dom{d})
	switch {
	case e != api.OK:
		t.Error(text, e)
	case what == api.Fail && len(good) > 0:
		t.Error(text, told([]api.Dom{d}), "lost all of", len(good))
	case what == api.Fail:
	case just && told(got) != told([]api.Dom{want}), !sets.Same(sets.Both(got[0], want), want):
		t.Errorf("%s, %s: %s; want %s", text, told([]api.Dom{d}), told(got), told([]api.Dom{want}))
	case (what == api.Same) != sets.Same(got[0], d):
		t.Error(text, "what became of it", what)
	}
}

// draw is a domain of a set of some elements from -2 to 3.
func draw(g *rand.Rand) api.Dom {
	part := func(of int) []int64 {
		return slices.DeleteFunc(run(-2, 6), func(int64) bool { return g.IntN(10) >= of })
	}
	up := part(7)
	lo := sets.Meet(up, part(2))
	least := len(lo) + g.IntN(len(up)-len(lo)+1)
	d, _ := sets.Of(lo, up, least, least+g.IntN(len(up)-least+1))
	return d
}

// supported is the values of each variable that are in an assignment within d of which c holds.
func supported(c api.Con, d []api.Dom) [][]api.Val {
	out := make([][]api.Val, len(d))
	v := make([]api.Val, len(d))
	var from func(n int)
	from = func(n int) {
		if n == len(d) {
			if ok, _ := setcon.Holds(c, v); ok {
				for i, x := range v {
					out[i] = append(out[i], x)
				}
			}
			return
		}
		for l := range sets.Each(d[n]) {
			v[n] = set(l)
			from(n + 1)
		}
		for x := range dom.Each(d[n].R) {
			v[n] = api.Val{N: x}
			from(n + 1)
		}
	}
	from(0)
	return out
}

// P10.3: over domains of several elements nothing is lost; in the order of sets nothing is left that could go.
func TestNothingLost(t *testing.T) {
	g := rand.New(rand.NewPCG(10, 3))
	for name := range cons.Names() {
		if cons.Family(name) != "setcon" {
			continue
		}
		exact := name == "set_le" || name == "set_lt" || name == "set_eq" || name == "set_card"
		for range 150 {
			var terms []api.Term
			var d []api.Dom
			for i, letter := range strings.Split(cons.Form(name), ",") {
				terms = append(terms, cons.Var(i))
				lo := g.Int64N(6) - 2
				d = append(d, map[string]api.Dom{"S": draw(g), "I": {R: []api.Range{{Lo: lo, Hi: lo + g.Int64N(3)}}}, "B": {R: []api.Range{{Lo: 0, Hi: 1}}}}[letter])
			}
			c := among(name, terms...)
			good := supported(c, d)
			got, what, e := setcon.Prune(c, d)
			if e != api.OK || what == api.Fail && len(good[0]) > 0 || exact && what != api.Fail && len(good[0]) == 0 {
				t.Fatal("Prune", name, told(d), what, e)
			}
			for n := range got {
				checkSupported(t, name+" "+told(d), got[n], good[n], exact)
			}
		}
	}
}

func checkSupported(t *testing.T, what string, got api.Dom, good []api.Val, exact bool) {
	t.Helper()
	var l [][]int64
	for _, v := range good {
		if !kinds.Has(got, v) {
			t.Fatal("lost", what, v)
		}
		l = append(l, v.S)
	}
	if exact && got.Set && told([]api.Dom{got}) != told([]api.Dom{hull(l)}) {
		t.Fatal("left", what, told([]api.Dom{got}))
	}
}

// P10.2: sets and numbers at the limits.
func TestGreat(t *testing.T) {
	whole := api.Dom{Set: true, Up: run(maxBig-63, 64), Most: 64}
	low := api.Dom{Set: true, Up: run(-maxBig, 64), Most: 64}
	number := api.Dom{R: []api.Range{{Lo: -maxBig, Hi: maxBig}}}
	for text, want := range map[string]int{
		"set_in(x0, x1)": api.Less, "set_in(x0, x2)": api.Less, "set_card(x1, x0)": api.Less, "set_eq(x1, x2)": api.Less, "set_ne(x1, x2)": api.Same, "set_subset(x1, x2)": api.Less, "set_le(x1, x2)": api.Less, "set_lt(x2, x1)": api.Less, "set_union(x1, x2, x1)": api.Less, "set_intersect(x1, x2, x2)": api.Less, "set_diff(x1, x2, x1)": api.Same, "set_symdiff(x1, x2, x1)": api.Less, "set_card(x1, -1)": api.Fail, "set_card(x1, 65)": api.Fail, "set_card(x1, 64)": api.Less,
	} {
		if _, what, e := setcon.Prune(parsed(t, text), []api.Dom{number, whole, low}); what != want || e != api.OK {
			t.Error(text, what, e)
		}
	}
	holds(t, parsed(t, "set_card(x0, 64)"), true, set(run(0, 64)))
	var holes []api.Range
	for i := range int64(api.MaxRanges) {
		holes = append(holes, api.Range{Lo: 4 * i, Hi: 4*i + 2})
	}
	got, what, e := setcon.Prune(parsed(t, "set_in_reif(x0, {1}, 0)"), []api.Dom{{R: holes}})
	if e != api.OK || what != api.Same || len(got[0].R) != api.MaxRanges {
		t.Error("of too many ranges", what, e)
	}
}
