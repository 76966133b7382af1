package prune

import (
	"testing"

	"jigsaw/api"
	"jigsaw/cons"
)

// counted is a pruner that counts how often it is asked.
type counted struct {
	pruner
	n *int
}

func (c counted) ask(all []api.Dom) answer {
	*c.n++
	return c.pruner.ask(all)
}

// chainOf is a network in which each variable is below the next, and how often its pruners were asked.
func chainOf(vars int, up bool) (*network, *int) {
	n := newNetwork(make([]bool, vars))
	asks := new(int)
	for i := range vars - 1 {
		v := i
		if !up {
			v = vars - 2 - i
		}
		c := api.Con{Name: "int_lt", Args: []api.Arg{cons.One(cons.Var(v)), cons.One(cons.Var(v + 1))}}
		n.join(counted{post(c), asks})
	}
	return &n, asks
}

// What goes along a chain of constraints, in either direction, comes to its end without asking each of them again and again.
func TestChain(t *testing.T) {
	for _, up := range []bool{true, false} {
		const vars = 500
		n, asks := chainOf(vars, up)
		d := make([]api.Dom, vars)
		for v := range d {
			d[v].R = []api.Range{{Lo: 1, Hi: 2 * vars}}
		}
		w := n.begin(d)
		for i := range n.pruners {
			w.call(i)
		}
		if what, e := w.run(); what != api.Less || e != api.OK || *asks > 4*vars {
			t.Error("run", what, e, *asks)
		}
		for v := range d {
			if want := (api.Range{Lo: int64(v + 1), Hi: int64(vars + v + 1)}); len(d[v].R) != 1 || d[v].R[0] != want {
				t.Fatal("left", v, d[v].R)
			}
		}
	}
}

// Only what is over a variable that changed is asked.
func TestAsked(t *testing.T) {
	const vars = 500
	n, asks := chainOf(vars, true)
	d := make([]api.Dom, vars)
	for v := range d {
		d[v].R = []api.Range{{Lo: 10 * int64(v), Hi: 10*int64(v) + 5}}
	}
	w := n.begin(d)
	if what, e := w.run(); what != api.Same || e != api.OK || *asks != 0 {
		t.Error("run with nothing due", what, e, *asks)
	}
	w.callOver(7)
	w.callOver(8)
	if what, e := w.run(); what != api.Same || e != api.OK || *asks != 3 {
		t.Error("run", what, e, *asks)
	}
	d[20].R = []api.Range{{Lo: 214, Hi: 215}}
	w.callOver(20)
	if what, e := w.run(); what != api.Less || e != api.OK || *asks > 9 || d[21].R[0].Lo != 215 {
		t.Error("run", what, e, *asks, d[21].R)
	}
}

// odd is a pruner over the first variable that answers what it is told to.
type odd struct{ answer answer }

func (odd) over() []int            { return []int{0} }
func (o odd) ask([]api.Dom) answer { return o.answer }

// What pruners answer is told apart; the first that leaves nothing, or says nothing, ends it.
func TestAnswers(t *testing.T) {
	whole := api.Dom{R: []api.Range{{Lo: 1, Hi: 3}}}
	less := api.Dom{R: []api.Range{{Lo: 2, Hi: 3}}}
	for _, s := range []struct {
		answers []answer
		what    int
		e       api.Errno
	}{
		{nil, api.Same, api.OK}, {[]answer{left{whole}}, api.Same, api.OK}, {[]answer{left{less}}, api.Less, api.OK}, {[]answer{left{less}, left{less}}, api.Less, api.OK},
		{[]answer{nothing{}}, api.Fail, api.OK}, {[]answer{left{less}, nothing{}}, api.Fail, api.OK}, {[]answer{unsaid{api.ErrOver}}, 0, api.ErrOver}, {[]answer{left{less}, unsaid{api.ErrOver}}, 0, api.ErrOver},
	} {
		n := newNetwork([]bool{false})
		for _, a := range s.answers {
			n.join(odd{a})
		}
		w := n.begin([]api.Dom{whole})
		for i := range s.answers {
			w.call(i)
		}
		if what, e := w.run(); what != s.what || e != s.e {
			t.Error("run", s.answers, what, e)
		}
	}
}
