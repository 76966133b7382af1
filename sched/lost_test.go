package sched_test

import (
	"math/rand/v2"
	"testing"

	"jigsaw/api"
	"jigsaw/cons"
	"jigsaw/dom"
	"jigsaw/sched"
)

// puzzle is a constraint over as many variables as it has, each once, with an assignment of which it holds.
type puzzle struct {
	c api.Con
	v []int64
}

// terms is a constraint's array of further variables that have these values.
func (p *puzzle) terms(l ...int64) api.Arg {
	var out []api.Term
	for _, n := range l {
		out = append(out, cons.Var(len(p.v)))
		p.v = append(p.v, n)
	}
	return cons.List(out...)
}

// term is one further variable.
func (p *puzzle) term(n int64) api.Arg {
	return cons.One(p.terms(n).L[0])
}

func numbers(l ...int64) api.Arg {
	var out []api.Term
	for _, n := range l {
		out = append(out, cons.Int(n))
	}
	return cons.List(out...)
}

// some is n numbers from lo to hi.
func some(g *rand.Rand, n int, lo, hi int64) []int64 {
	out := make([]int64, n)
	for i := range out {
		out[i] = lo + g.Int64N(hi-lo+1)
	}
	return out
}

// tour is a circuit through the first of n places in some order; all others lead to themselves.
func tour(g *rand.Rand, n, through int) []int64 {
	out := make([]int64, n)
	order := g.Perm(n)
	for i := range out {
		out[order[i]] = int64(order[i] + 1)
		if i < through {
			out[order[i]] = int64(order[(i+1)%through] + 1)
		}
	}
	return out
}

// heaviest is the most that is needed at a time.
func heaviest(s, d, r []int64) int64 {
	most := int64(0)
	for _, now := range s {
		n := int64(0)
		for i := range s {
			if s[i] <= now && now < s[i]+d[i] {
				n += r[i]
			}
		}
		most = max(most, n)
	}
	return most
}

// loadsOf is how heavy each of some bins is.
func loadsOf(bins int, in, weights []int64) []int64 {
	out := make([]int64, bins)
	for i, b := range in {
		out[b-1] += weights[i]
	}
	return out
}

func dot(a, b []int64) int64 {
	n := int64(0)
	for i := range a {
		n += a[i] * b[i]
	}
	return n
}

// tiles is rectangles that do not overlap: cells of a board, each of them smaller than its cell, or as great.
func tiles(g *rand.Rand, n int) (x, y, w, h []int64) {
	for i := range int64(n) {
		width, height := g.Int64N(5), g.Int64N(5)
		x, y = append(x, i%6*4+g.Int64N(5-width)), append(y, i/6*4+g.Int64N(5-height))
		w, h = append(w, width), append(h, height)
	}
	return x, y, w, h
}

// puzzleOf is a puzzle with a constraint of that name.
func puzzleOf(g *rand.Rand, name string, n int) puzzle {
	var p puzzle
	var args []api.Arg
	switch name {
	case "fzn_circuit":
		args = []api.Arg{p.terms(tour(g, n, n)...)}
	case "fzn_subcircuit":
		args = []api.Arg{p.terms(tour(g, n, g.IntN(n+1))...)}
	case "fzn_cumulative":
		s, d, r := some(g, n, -20, 20), some(g, n, 0, 6), some(g, n, 0, 4)
		args = []api.Arg{p.terms(s...), p.terms(d...), p.terms(r...), p.term(heaviest(s, d, r) + g.Int64N(2))}
	case "fzn_disjunctive":
		s, d := make([]int64, n), some(g, n, 0, 4)
		at := int64(-30)
		for _, i := range g.Perm(n) {
			s[i] = at
			at += d[i] + g.Int64N(2)
		}
		args = []api.Arg{p.terms(s...), p.terms(d...)}
	case "fzn_diffn":
		x, y, w, h := tiles(g, n)
		args = []api.Arg{p.terms(x...), p.terms(y...), p.terms(w...), p.terms(h...)}
	case "fzn_knapsack":
		x, w, q := some(g, n, 0, 5), some(g, n, 0, 9), some(g, n, 0, 9)
		args = []api.Arg{numbers(w...), numbers(q...), p.terms(x...), p.term(dot(w, x)), p.term(dot(q, x))}
	default:
		in, weights := some(g, n, 1, 5), some(g, n, 0, 9)
		l := loadsOf(5, in, weights)
		switch name {
		case "fzn_bin_packing":
			args = []api.Arg{cons.One(cons.Int(max(l[0], l[1], l[2], l[3], l[4]))), p.terms(in...), numbers(weights...)}
		case "fzn_bin_packing_capa":
			args = []api.Arg{numbers(l...), p.terms(in...), numbers(weights...)}
		case "fzn_bin_packing_load":
			args = []api.Arg{p.terms(l...), p.terms(in...), numbers(weights...)}
		}
	}
	p.c = api.Con{Name: name, Args: args}
	return p
}

// around is domains that have the puzzle's values: many of them just these.
func (p puzzle) around(g *rand.Rand) []api.Dom {
	out := make([]api.Dom, len(p.v))
	known := g.IntN(5)
	for i, n := range p.v {
		l := []int64{n}
		if g.IntN(5) >= known {
			for range 1 + g.IntN(4) {
				l = append(l, n-3+g.Int64N(7))
			}
		}
		out[i].R, _ = dom.Of(l...)
	}
	return out
}

// familyNames is the constraints of this family.
func familyNames() []string {
	var out []string
	for name := range cons.Names() {
		if cons.Family(name) == "sched" {
			out = append(out, name)
		}
	}
	return out
}

// P13.3: an assignment of which a constraint holds is not lost, whatever lies around it.
func TestNothingIsLost(t *testing.T) {
	for _, name := range familyNames() {
		g := rand.New(rand.NewPCG(13, 3))
		seen := map[int]int{}
		for range 2000 {
			p := puzzleOf(g, name, 1+g.IntN(30))
			v := make([]api.Val, len(p.v))
			for i, n := range p.v {
				v[i].N = n
			}
			if ok, e := sched.Holds(p.c, v); !ok || e != api.OK {
				t.Fatal("Holds", cons.Text(p.c), p.v, ok, e)
			}
			d := p.around(g)
			got, what, e := sched.Prune(p.c, d)
			if e != api.OK || what == api.Fail {
				t.Fatal("Prune", cons.Text(p.c), told(d), what, e)
			}
			for i, n := range p.v {
				if !dom.Has(got[i].R, n) || !dom.Within(got[i].R, d[i].R) {
					t.Fatal("Prune", cons.Text(p.c), told(d), told(got), "lost:", i, n)
				}
			}
			seen[what]++
		}
		if seen[api.Same] == 0 || seen[api.Less] == 0 {
			t.Error(name, "not both of Same, Less:", seen)
		}
	}
}

// taken is the most that is taken at a time as P13.6 says it, of tasks with these lengths and needs.
func taken(s []api.Dom, length, need []int64) int64 {
	var from, to, r []int64
	for i, d := range s {
		least, _ := dom.Min(d.R)
		greatest, _ := dom.Max(d.R)
		if length[i] > 0 && greatest < least+length[i] {
			from, to, r = append(from, greatest), append(to, least+length[i]-greatest), append(r, need[i])
		}
	}
	return heaviest(from, to, r)
}

// P13.6: no time is taken by more than there is, in the domains that are left; lengths, needs and the limit are constants, or variables with one value.
func TestTimes(t *testing.T) {
	g := rand.New(rand.NewPCG(13, 6))
	seen, much := map[int]int{}, 0
	for range 20000 {
		n := 1 + g.IntN(7)
		length, need, limit := some(g, n, 0, 6), some(g, n, 0, 4), g.Int64N(7)
		d := make([]api.Dom, n)
		for i := range d {
			at := g.Int64N(12)
			d[i] = anyDom(g, at, at+g.Int64N(5))
		}
		args := []api.Arg{cons.List(variables(n)...), numbers(length...), numbers(need...), cons.One(cons.Int(limit))}
		all := d
		if g.IntN(2) == 0 {
			p := puzzle{v: make([]int64, n)}
			args = []api.Arg{args[0], p.terms(length...), p.terms(need...), p.term(limit)}
			for _, v := range p.v[n:] {
				all = append(all, api.Dom{R: []api.Range{{Lo: v, Hi: v}}})
			}
		}
		got, what, e := sched.Prune(api.Con{Name: "fzn_cumulative", Args: args}, all)
		over := taken(d, length, need) > limit
		if e != api.OK || over && what != api.Fail {
			t.Fatal("Prune", length, need, limit, told(d), what, e)
		}
		seen[what]++
		if over {
			much++
		}
		if what != api.Fail && taken(got[:n], length, need) > limit {
			t.Fatal("Prune", length, need, limit, told(d), told(got))
		}
	}
	if len(seen) != 3 || much == 0 {
		t.Error("not all of Same, Less, Fail:", seen, much)
	}
}

// P13.6, where what is taken grows while something is taken away.
func TestTimesGrow(t *testing.T) {
	for _, s := range [][3]string{
		{"fzn_cumulative([0, x0, x1], [3, 3, 3], [1, 1, 1], 1)", "0..4 0..5", "fail"},
		{"fzn_cumulative([0, x0, x1], [3, 3, 2], [1, 1, 1], 1)", "0..4 0..9", "3..4 3..9"},
		{"fzn_cumulative([0, x0, x1, x2], [3, 4, 4, 4], [2, 1, 1, 1], 2)", "0..6 0..6 0..6", "fail"},
		{"fzn_cumulative([0, x0, x1], [3, 4, 4], [2, 1, 1], 2)", "0..6 0..6", "3..6 3..6"},
		{"fzn_cumulative([x0, x1, x2], [x3, x4, x5], [x6, x7, x8], x9)", "0..1 0..1 0..1 2 2 2 1 1 1 2", "fail"},
		{"fzn_cumulative([x0, x1, x2], [x3, x4, x5], [x6, x7, x8], x9)", "0..1 0..1 0..1 2 2 2 1 1 1 3", "same"},
		{"fzn_cumulative([x0, x1], [2, 2], [1, 1], 1)", "0..1 0..1", "fail"},
		{"fzn_cumulative([x0, x1], [2, 2], [1, 1], 1)", "0..2 0..2", "same"},
	} {
		prunes(t, s[0], s[1], s[2])
	}
}
