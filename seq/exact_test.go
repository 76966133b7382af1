package seq_test

import (
	"iter"
	"math/rand/v2"
	"slices"
	"testing"

	"jigsaw/api"
	"jigsaw/cons"
	"jigsaw/dom"
	"jigsaw/seq"
)

// assignments is all values within domains.
func assignments(d []api.Dom) iter.Seq[[]int64] {
	return func(yield func([]int64) bool) {
		given := make([]int64, len(d))
		var from func(at int) bool
		from = func(at int) bool {
			if at == len(d) {
				return yield(given)
			}
			for v := range dom.Each(d[at].R) {
				given[at] = v
				if !from(at + 1) {
					return false
				}
			}
			return true
		}
		from(0)
	}
}

// exact asks that just what is in some assignment of which so is true is left, and tells what became of the domains.
func exact(t *testing.T, c api.Con, d []api.Dom, so func(l []int64) bool) int {
	t.Helper()
	want := make([][]int64, len(d))
	for l := range assignments(d) {
		if so(l) {
			for i, v := range l {
				want[i] = append(want[i], v)
			}
		}
	}
	got, what, e := seq.Prune(c, d)
	if e != api.OK || (what == api.Fail) != (len(want[0]) == 0) {
		t.Fatal("Prune", cons.Text(c), told(d), what, e)
	}
	for i := range got {
		if r, _ := dom.Of(want[i]...); !dom.Same(r, got[i].R) {
			t.Fatalf("Prune %s, %s: of %d %s; want %s", cons.Text(c), told(d), i, dom.Text(got[i].R), dom.Text(r))
		}
	}
	return what
}

// terms is constants.
func terms(l []int64) []api.Term {
	var out []api.Term
	for _, n := range l {
		out = append(out, cons.Int(n))
	}
	return out
}

// P12.6: tables, against all assignments: rows that stand twice, rows beyond all domains, none.
func TestTables(t *testing.T) {
	g := rand.New(rand.NewPCG(12, 1))
	seen := map[int]int{}
	for range 5000 {
		n := 1 + g.IntN(4)
		var numbers []int64
		for range n * g.IntN(8) {
			numbers = append(numbers, g.Int64N(5)-1)
		}
		if len(numbers) > n && g.IntN(4) == 0 {
			numbers = append(numbers, numbers[:n]...)
		}
		d := make([]api.Dom, n)
		for i := range d {
			d[i] = anyDom(g, -1, 4)
		}
		c := api.Con{Name: "fzn_table_int", Args: []api.Arg{cons.List(variables(n)...), cons.List(terms(numbers)...)}}
		seen[exact(t, c, d, func(l []int64) bool {
			for i := 0; i < len(numbers); i += n {
				if slices.Equal(numbers[i:i+n], l) {
					return true
				}
			}
			return false
		})]++
	}
	if len(seen) != 3 {
		t.Error("not all of Same, Less, Fail:", seen)
	}
}

// P12.6: automata, against all assignments: states that lead nowhere, letters beyond the table's, last states that there are not.
func TestAutomata(t *testing.T) {
	g := rand.New(rand.NewPCG(12, 2))
	seen := map[int]int{}
	for range 5000 {
		n, states, letters, first := 1+g.IntN(4), 1+g.Int64N(4), 1+g.Int64N(4), int64(1)
		var next []int64
		for range states * letters {
			next = append(next, g.Int64N(states+1))
		}
		first += g.Int64N(states)
		last := slices.Compact(slices.Sorted(slices.Values([]int64{g.Int64N(6), g.Int64N(6)})))
		d := make([]api.Dom, n)
		for i := range d {
			d[i] = anyDom(g, 0, 5)
		}
		one := func(n int64) api.Arg { return cons.One(cons.Int(n)) }
		c := api.Con{Name: "fzn_regular", Args: []api.Arg{cons.List(variables(n)...), one(states), one(letters), cons.List(terms(next)...), one(first), cons.One(cons.Set(last...))}}
		seen[exact(t, c, d, func(l []int64) bool {
			state := first
			for _, x := range l {
				if x < 1 || x > letters {
					return false
				}
				if state = next[(state-1)*letters+x-1]; state == 0 {
					return false
				}
			}
			return slices.Contains(last, state)
		})]++
	}
	if len(seen) != 3 {
		t.Error("not all of Same, Less, Fail:", seen)
	}
}

// P12.6: an automaton of MaxArray letters in a row: as many of one kind as of the other one are not told apart, but the last one must be as the first.
func TestGreatAutomaton(t *testing.T) {
	const n = api.MaxArray
	// From state 1 the first letter leads to state 2 or 3; these are left for 4 and 5 by the letter that led there, and come back by the other one.
	next := []int64{2, 3, 4, 2, 3, 5, 4, 2, 3, 5}
	one := func(n int64) api.Arg { return cons.One(cons.Int(n)) }
	c := api.Con{Name: "fzn_regular", Args: []api.Arg{cons.List(variables(n)...), one(5), one(2), cons.List(terms(next)...), one(1), cons.One(cons.Set(4, 5))}}
	d := spans(n, -maxBig, maxBig)
	got, what, e := seq.Prune(c, d)
	if e != api.OK || what != api.Less || dom.Text(got[0].R) != "1..2" || dom.Text(got[n-1].R) != "1..2" {
		t.Fatal("Prune", what, e)
	}
	d[0] = api.Dom{R: []api.Range{{Lo: 2, Hi: 2}}}
	got, what, e = seq.Prune(c, d)
	if e != api.OK || what != api.Less || dom.Text(got[n/2].R) != "1..2" || dom.Text(got[n-1].R) != "2" {
		t.Fatal("Prune", what, e)
	}
	d[n-1] = api.Dom{R: []api.Range{{Lo: 1, Hi: 1}}}
	if got, what, e := seq.Prune(c, d); e != api.OK || what != api.Fail || got != nil {
		t.Fatal("Prune", what, e)
	}
}

// P12.3: fzn_inverse and fzn_lex_.. leave just what is in some assignment, too, where no variable stands twice.
func TestInverseAndLex(t *testing.T) {
	g := rand.New(rand.NewPCG(12, 3))
	for range 2000 {
		n := 1 + g.IntN(3)
		d := make([]api.Dom, 2*n)
		for i := range d {
			d[i] = anyDom(g, 1, int64(n))
			if g.IntN(3) > 0 {
				d[i] = spans(1, 0, int64(n)+g.Int64N(2))[0]
			}
		}
		x := variables(2 * n)
		for name, so := range map[string]func(l []int64) bool{
			"fzn_inverse": func(l []int64) bool {
				for i, j := range l {
					if j < 1 || j > int64(n) || l[(i/n*n+n)%(2*n)+int(j)-1] != int64(i%n)+1 {
						return false
					}
				}
				return true
			},
			"fzn_lex_less_int":   func(l []int64) bool { return slices.Compare(l[:n], l[n:]) < 0 },
			"fzn_lex_lesseq_int": func(l []int64) bool { return slices.Compare(l[:n], l[n:]) <= 0 },
		} {
			exact(t, api.Con{Name: name, Args: []api.Arg{cons.List(x[:n]...), cons.List(x[n:]...)}}, d, so)
		}
	}
}
