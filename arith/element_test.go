package arith_test

import (
	"fmt"
	"math/rand/v2"
	"slices"
	"testing"

	"jigsaw/api"
	"jigsaw/arith"
	"jigsaw/cons"
	"jigsaw/dom"
	"jigsaw/ints"
)

// P8.2 to P8.6: elements, by hand.
func TestElements(t *testing.T) {
	prunes(t, "array_int_element(x0, [5, 7, 5, 9], x1)", "-9..9 5..8", "1..3 5,7")
	prunes(t, "array_int_element(x0, [5, 7, 5, 9], x1)", "-1000000..1000000 -1000000..1000000", "1..4 5,7,9")
	prunes(t, "array_int_element(x0, [5, 7, 5, 9], x1)", "2,4 5..8", "2 7")
	prunes(t, "array_int_element(x0, [5, 7], x1)", "3..9 5..8", "fail")
	prunes(t, "array_int_element(x0, [5, 7], x1)", "-3..0 5..8", "fail")
	prunes(t, "array_int_element(x0, [5, 7], x1)", "1..2 6", "fail")
	prunes(t, "array_int_element(x0, [], x1)", "1..2 6", "fail")
	prunes(t, "array_int_element(x0, [1000000000, 1000000, -1000001], x1)", "1..3 -1000000..1000000", "2 1000000")
	prunes(t, "array_int_element(x0, [2, 1, 3, 2], x0)", "-1000000..1000000", "3")
	prunes(t, "array_int_element(x0, [2, 1], x0)", "-1000000..1000000", "fail")
	prunes(t, "array_bool_element(x0, [1, 0, 1], x1)", "0..9 -4..4", "1..3 0..1")
	prunes(t, "array_bool_element(x0, [1, 0, 1], x1)", "0..9 0", "2 0")
	prunes(t, "array_bool_element(x0, [1, 1], x1)", "0..9 2..4", "fail")
	prunes(t, "array_var_int_element(x0, [x1, x2, 9], x3)", "0..9 1..2 4..6 0..5", "1..2 1..2 4..6 1..2,4..5")
	prunes(t, "array_var_int_element(x0, [x1, x2, 9], x3)", "2..9 1..2 4..6 0..5", "2 1..2 4..5 4..5")
	prunes(t, "array_var_int_element(x0, [x1, x2], x3)", "0..9 1..2 4..6 7", "fail")
	prunes(t, "array_var_int_element(x0, [x1, x1], x1)", "0..9 1..2", "1..2 1..2")
	prunes(t, "array_var_bool_element(x0, [x1, x2], x3)", "0..9 -1..1 0..2 1", "1..2 0..1 0..1 1")
	prunes(t, "array_var_bool_element(x0, [x1, x2], x3)", "1 0..1 2..3 1", "fail") // a truth that is none, though it is not asked for
	prunes(t, "array_var_bool_element(x0, [0, x2], x3)", "0..9 0..1 0..1 1", "2 0..1 1 1")
}

// set is a domain of sets.
func set(lo, up []int64, least, most int) api.Dom {
	return api.Dom{Set: true, Lo: lo, Up: up, Least: least, Most: most}
}

// P8.2 to P8.5: sets as elements.
func TestSetElements(t *testing.T) {
	c := parsed(t, "array_set_element(x0, [{1}, {1,2}, {3}, {1,3}], x1)")
	free := set(nil, []int64{1, 2, 3, 4}, 0, 4)
	for _, s := range []struct {
		index string
		d     api.Dom
		want  string
	}{
		{"0..9", free, "1..4 {[] [1 2 3] 1 2}"},
		{"0..2", free, "1..2 {[1] [1 2] 1 2}"},
		{"3", free, "3 {[3] [3] 1 1}"},
		{"0..9", set([]int64{1}, []int64{1, 2, 3}, 1, 3), "1..2,4 {[1] [1 2 3] 1 2}"},
		{"0..9", set(nil, []int64{1, 3}, 0, 1), "1,3 {[] [1 3] 1 1}"},
		{"0..9", set([]int64{1, 2}, []int64{1, 2}, 2, 2), "2 {[1 2] [1 2] 2 2}"},
		{"0..9", set(nil, []int64{2, 4}, 0, 2), "fail"},
		{"5..9", free, "fail"},
		{"0..9", set(nil, nil, 1, 0), "fail"},
		{"1..4", set(nil, []int64{1, 2, 3}, 1, 2), "1..4 {[] [1 2 3] 1 2}"},
		{"2", set([]int64{1}, []int64{1, 2}, 2, 2), "2 {[1 2] [1 2] 2 2}"}, // made tight
	} {
		d := []api.Dom{doms(t, s.index)[0], s.d}
		got, what, e := arith.Prune(c, d)
		text := "fail"
		if what != api.Fail {
			text = fmt.Sprint(dom.Text(got[0].R), " ", struct {
				lo, up      []int64
				least, most int
			}{got[1].Lo, got[1].Up, got[1].Least, got[1].Most})
		}
		if text != s.want || e != api.OK || what == api.Less && (s.index == "2" || s.index == "1..4") {
			t.Errorf("Prune %s %v: %s, %d, %d; want %s", s.index, s.d, text, what, e, s.want)
		}
	}
	one := parsed(t, "array_set_element(2, [{1}, {1,2}], x0)")
	var many []int64
	for n := range int64(api.MaxElems) {
		many = append(many, n)
	}
	for _, up := range [][]int64{many, many[:10], many[:5]} { // 2^64, 1024, 32 sets
		got, what, e := arith.Prune(one, []api.Dom{set(nil, up, 0, len(up))})
		if what != api.Less || e != api.OK || !slices.Equal(got[0].Lo, []int64{1, 2}) || !slices.Equal(got[0].Up, got[0].Lo) || got[0].Least != 2 || got[0].Most != 2 {
			t.Error("Prune", len(up), got, what, e)
		}
	}
}

// P8.6: just what holds with some value of the other one, whatever the sizes.
func TestElementPairs(t *testing.T) {
	g := rand.New(rand.NewPCG(8, 6))
	anyDom := func(most int64) api.Dom {
		var l []int64
		for range 1 + g.IntN(12) {
			l = append(l, g.Int64N(2*most)-most/2)
		}
		out, _ := dom.Of(l...)
		if g.IntN(3) == 0 {
			out, _ = dom.Span(slices.Min(l), slices.Max(l))
		}
		return api.Dom{R: out}
	}
	seen := map[int]int{}
	for range 3000 {
		var a []api.Term
		for range g.IntN(30) {
			a = append(a, cons.Int(g.Int64N(4000)-1000))
		}
		c := api.Con{Name: "array_int_element", Args: []api.Arg{cons.One(cons.Var(1)), cons.List(a...), cons.One(cons.Var(0))}}
		d := []api.Dom{anyDom(3000), anyDom(30)}
		var index, y []int64
		for i, x := range a {
			if dom.Has(d[1].R, int64(i+1)) && dom.Has(d[0].R, x.C.N) {
				index, y = append(index, int64(i+1)), append(y, x.C.N)
			}
		}
		wantIndex, _ := dom.Of(index...)
		wantY, _ := dom.Of(y...)
		got, what, e := arith.Prune(c, d)
		seen[what]++
		if e != api.OK || (what == api.Fail) != (len(index) == 0) || what != api.Fail && (!dom.Same(got[1].R, wantIndex) || !dom.Same(got[0].R, wantY)) {
			t.Fatal("Prune", cons.Text(c), told(d), told(got), what, e)
		}
	}
	if seen[api.Less] < 100 || seen[api.Fail] < 100 {
		t.Error("not all of Less, Fail:", seen)
	}
}

// P8.6: the longest array.
func TestLongArray(t *testing.T) {
	var a []api.Term
	for i := range int64(api.MaxArray) {
		a = append(a, cons.Int(2*i-maxBig))
	}
	c := api.Con{Name: "array_int_element", Args: []api.Arg{cons.One(cons.Var(0)), cons.List(a...), cons.One(cons.Var(1))}}
	wide := api.Dom{R: []api.Range{{Lo: -maxBig, Hi: maxBig}}}
	got, what, e := arith.Prune(c, []api.Dom{wide, wide})
	if what != api.Less || e != api.OK || dom.Text(got[0].R) != "1..1000" || len(got[1].R) != api.MaxArray || dom.Size(got[1].R) != api.MaxArray {
		t.Error("Prune", what, e)
	}
}

// P8.3: nothing is lost of great domains either, where values are not tried one by one: pairs are drawn, and their result is put into the domains.
func TestGreatDomains(t *testing.T) {
	g := rand.New(rand.NewPCG(8, 3))
	number := func() int64 {
		most := []int64{3, 50, 4000, maxBig}[g.IntN(4)]
		return g.Int64N(2*most+1) - most
	}
	around := func(v int64) api.Dom {
		lo, hi := min(v, number()), max(v, number())
		l, _ := dom.Span(lo, hi)
		for range g.IntN(3) {
			if n := g.Int64N(hi-lo+1) + lo; n != v {
				l = dom.Without(l, n)
			}
		}
		return api.Dom{R: l}
	}
	does := map[string]func(a, b int64) (int64, api.Errno){
		"int_plus": ints.Add, "int_times": ints.Mul, "int_div": ints.Div, "int_mod": ints.Mod, "int_pow": ints.Pow,
		"int_min": func(a, b int64) (int64, api.Errno) { return min(a, b), api.OK },
		"int_max": func(a, b int64) (int64, api.Errno) { return max(a, b), api.OK },
		"int_abs": func(a, _ int64) (int64, api.Errno) { return ints.Abs(a) },
	}
	for name, f := range does {
		kept, less := 0, 0
		for range 12000 {
			x, y := number(), number()
			if name == "int_pow" {
				y = y % 8
			}
			z, e := f(x, y)
			if e != api.OK || z < -maxBig || z > maxBig {
				continue
			}
			c := api.Con{Name: name, Args: []api.Arg{cons.One(cons.Var(0)), cons.One(cons.Var(1)), cons.One(cons.Var(2))}}
			if name == "int_abs" {
				c.Args = slices.Delete(c.Args, 1, 2)
			}
			d := []api.Dom{around(x), around(y), around(z)}
			got, what, e := arith.Prune(c, d)
			if e == api.ErrOver && name == "int_pow" {
				continue
			}
			if e != api.OK || what == api.Fail || !dom.Has(got[0].R, x) || !dom.Has(got[1].R, y) || !dom.Has(got[2].R, z) {
				t.Fatal("lost:", name, x, y, z, told(d), told(got), what, e)
			}
			if kept++; what == api.Less {
				less++
			}
		}
		if kept < 1000 || less < 100 {
			t.Error("too few:", name, kept, less)
		}
	}
}
