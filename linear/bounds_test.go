package linear_test

import (
	"math/rand/v2"
	"slices"
	"strings"
	"testing"

	"jigsaw/api"
	"jigsaw/cons"
	"jigsaw/dom"
	"jigsaw/linear"
)

// weights is the coefficients of each variable of a sum that is held against a total: int_le and so on as the sums x - y.
func weights(c api.Con) (map[int][]int64, int64) {
	out, total := map[int][]int64{}, int64(0)
	add := func(a int64, x api.Term) {
		if x.Var < 0 {
			total -= a * x.C.N
		} else {
			out[x.Var] = append(out[x.Var], a)
		}
	}
	switch c.Name {
	case "int_lin_le", "int_lin_eq":
		total = c.Args[2].L[0].C.N
		for i, a := range c.Args[0].L {
			add(a.C.N, c.Args[1].L[i])
		}
		return out, total
	case "int_lt":
		total = -1
	}
	add(1, c.Args[0].L[0])
	add(-1, c.Args[1].L[0])
	return out, total
}

func total(l []int64) int64 {
	n := int64(0)
	for _, a := range l {
		n += a
	}
	return n
}

// reach is the least and the most that a variable brings.
func reach(a int64, d api.Dom) (int64, int64) {
	lo, _ := dom.Min(d.R)
	hi, _ := dom.Max(d.R)
	return min(a*lo, a*hi), max(a*lo, a*hi)
}

// bounded: has each variable that stands once no value that is too great for the sum (of equals: too small), as the document says?
func bounded(c api.Con, d []api.Dom) bool {
	w, bound := weights(c)
	least, most := int64(0), int64(0)
	for v, l := range w {
		lo, hi := reach(total(l), d[v])
		least, most = least+lo, most+hi
	}
	for v, l := range w {
		if len(l) != 1 {
			continue
		}
		lo, hi := reach(l[0], d[v])
		if hi+least-lo > bound {
			return false
		}
		if (c.Name == "int_eq" || c.Name == "int_lin_eq") && lo+most-hi < bound {
			return false
		}
	}
	return true
}

// anySum is a comparison or a sum over variables 0 to 4, any of them more than once.
func anySum(g *rand.Rand) api.Con {
	term := func() api.Term {
		if g.IntN(6) == 0 {
			return cons.Int(g.Int64N(9) - 4)
		}
		return cons.Var(g.IntN(5))
	}
	name := []string{"int_lin_le", "int_lin_eq", "int_lin_eq", "int_le", "int_lt", "int_eq"}[g.IntN(6)]
	if !strings.Contains(name, "_lin_") {
		return api.Con{Name: name, Args: []api.Arg{cons.One(term()), cons.One(term())}}
	}
	var coefs, terms []api.Term
	for range g.IntN(6) {
		coefs = append(coefs, cons.Int(g.Int64N(13)-6))
		terms = append(terms, term())
	}
	return api.Con{Name: name, Args: []api.Arg{cons.List(coefs...), cons.List(terms...), cons.One(cons.Int(g.Int64N(41) - 20))}}
}

// P7.6: sums over domains with and without gaps.
func TestBounds(t *testing.T) {
	g := rand.New(rand.NewPCG(7, 6))
	seen := map[int]int{}
	for range 40000 {
		c := anySum(g)
		d := make([]api.Dom, 5)
		for n := range d {
			var l []int64
			for range 1 + g.IntN(5) {
				l = append(l, g.Int64N(31)-15)
			}
			if d[n].R, _ = dom.Of(l...); g.IntN(2) == 0 {
				d[n].R, _ = dom.Span(slices.Min(l), slices.Max(l))
			}
		}
		got, what, e := linear.Prune(c, d)
		seen[what]++
		if e != api.OK || what != api.Fail && !bounded(c, got) {
			t.Fatal("Prune", cons.Text(c), told(d), told(got), what, e)
		}
	}
	if seen[api.Same] < 1000 || seen[api.Less] < 1000 || seen[api.Fail] < 1000 {
		t.Error("not all of Same, Less, Fail:", seen)
	}
}

// P7.6: of domains with as many ranges as can be, where what two have in common would be too many of them, the bounds hold all the same.
func TestBoundsOfManyRanges(t *testing.T) {
	comb := func(first, step, width int64) api.Dom {
		var out api.Dom
		for i := range int64(api.MaxRanges) {
			out.R = append(out.R, api.Range{Lo: first + i*step, Hi: first + i*step + width - 1})
		}
		return out
	}
	x, y := comb(0, 8, 7), comb(3, 8, 7) // each range of the one meets two of the other one
	got, what, e := linear.Prune(parsed(t, "int_eq(x0, x1)"), []api.Dom{x, y})
	if e != api.OK || what != api.Less || !bounded(parsed(t, "int_eq(x0, x1)"), got) || !dom.Right(got[0].R) || !dom.Right(got[1].R) {
		t.Error("Prune", what, e)
	}
	for v := range dom.Each(x.R) {
		if dom.Has(y.R, v) && (!dom.Has(got[0].R, v) || !dom.Has(got[1].R, v)) {
			t.Fatal("lost", v)
		}
	}
}

// P7.6, P1: bounds that come nearer by one at a time, over many variables, come to an end.
func TestSlowBounds(t *testing.T) {
	wide := api.Dom{R: []api.Range{{Lo: -maxBig, Hi: maxBig}}}
	d := []api.Dom{wide, wide}
	prunes(t, "int_lin_eq([2, -2], [x0, x1], 1)", "-1000000..1000000 -1000000..1000000", "fail")
	coefs, terms := []api.Term{cons.Int(1000), cons.Int(-1000)}, []api.Term{cons.Var(0), cons.Var(1)}
	for n := 2; n < api.MaxArray; n++ {
		coefs, terms = append(coefs, cons.Int(1)), append(terms, cons.Var(n))
		d = append(d, api.Dom{R: []api.Range{{Lo: 0, Hi: 1}}})
	}
	c := api.Con{Name: "int_lin_eq", Args: []api.Arg{cons.List(coefs...), cons.List(terms...), cons.One(cons.Int(999))}}
	if got, what, e := linear.Prune(c, d); len(got) > 0 || what != api.Fail || e != api.OK {
		t.Error("Prune", what, e)
	}
}
