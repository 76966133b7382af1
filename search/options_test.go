package search_test

import (
	"math"
	"testing"

	"jigsaw/api"
	"jigsaw/search"
)

// P20.1: which options can be; too many draws come last.
func TestRight(t *testing.T) {
	for _, c := range []struct {
		o api.Options
		e api.Errno
	}{
		{api.Options{Nodes: 1}, api.OK},
		{api.Options{Nodes: api.MaxBudget}, api.OK},
		{api.Options{Nodes: 0}, api.ErrArg},
		{api.Options{Nodes: -1}, api.ErrArg},
		{api.Options{Nodes: least}, api.ErrArg},
		{api.Options{Nodes: api.MaxBudget + 1}, api.ErrArg},
		{api.Options{Nodes: greatest}, api.ErrArg},
		{api.Options{Nodes: 1, Scale: -5}, api.OK},
		{api.Options{Nodes: 1, Scale: greatest}, api.OK},
		{api.Options{Nodes: 1, Restart: -1, Scale: 1}, api.ErrArg},
		{api.Options{Nodes: 1, Restart: 4, Scale: 1}, api.ErrArg},
		{api.Options{Nodes: 1, Restart: math.MinInt, Scale: 1}, api.ErrArg},
		{api.Options{Nodes: 1, Restart: math.MaxInt, Scale: 1}, api.ErrArg},
		{api.Options{Nodes: 1, Lns: 100}, api.OK},
		{api.Options{Nodes: 1, Lns: -1}, api.ErrArg},
		{api.Options{Nodes: 1, Lns: 101}, api.ErrArg},
		{api.Options{Nodes: 1, Draws: make([]int, api.MaxDraws)}, api.OK},
		{api.Options{Nodes: 1, Draws: make([]int, api.MaxDraws+1)}, api.ErrSize},
		{api.Options{Nodes: 0, Draws: make([]int, api.MaxDraws+1)}, api.ErrArg},
		{api.Options{Nodes: 1, Lns: 101, Draws: make([]int, api.MaxDraws+1)}, api.ErrArg},
		{api.Options{Nodes: 1, All: true, Nogoods: true, Draws: []int{math.MinInt, math.MaxInt}}, api.OK},
	} {
		if e := search.Right(c.o); e != c.e {
			t.Errorf("Right(%d, %d, %d, %d, %d draws) = %d; want %d", c.o.Nodes, c.o.Restart, c.o.Scale, c.o.Lns, len(c.o.Draws), e, c.e)
		}
	}
	for how := api.RConstant; how <= api.RGeometric; how++ {
		for scale, want := range map[int64]api.Errno{1: api.OK, maxBig: api.OK, 0: api.ErrArg, -1: api.ErrArg, maxBig + 1: api.ErrArg, least: api.ErrArg, greatest: api.ErrArg} {
			if e := search.Right(api.Options{Nodes: 1, Restart: how, Scale: scale}); e != want {
				t.Error("Right", how, scale, e)
			}
			if _, e := search.Cutoff(how, scale, 1); e != want {
				t.Error("Cutoff", how, scale, e)
			}
		}
	}
}

// row is the row of Luby, made by the document's beginning: twice what was there, then twice its last one.
func row(n int) []int64 {
	l := []int64{1}
	for len(l) < n {
		l = append(append(l, l...), 2*l[len(l)-1])
	}
	return l[:n]
}

// P20.1: the nodes of a start.
func TestCutoff(t *testing.T) {
	for i, want := range row(5000) {
		for _, scale := range []int64{1, 10, maxBig} {
			if n, e := search.Cutoff(api.RLuby, scale, i+1); n != min(want*scale, api.MaxBudget) || e != api.OK {
				t.Fatal("Cutoff of Luby", scale, i+1, n, e)
			}
			if n, e := search.Cutoff(api.RConstant, scale, i+1); n != scale || e != api.OK {
				t.Fatal("Cutoff of constant ones", scale, i+1, n, e)
			}
		}
	}
	for _, scale := range []int64{1, 3, 1000, maxBig} {
		want := scale
		for start := 1; start < 100; start++ {
			if n, e := search.Cutoff(api.RGeometric, scale, start); n != want || e != api.OK {
				t.Fatal("Cutoff, geometric", scale, start, n, want, e)
			}
			want = min(2*want, api.MaxBudget)
		}
	}
	for _, c := range []struct {
		how   int
		start int
		want  int64
	}{
		{api.RGeometric, math.MaxInt, api.MaxBudget}, {api.RLuby, math.MaxInt, api.MaxBudget}, {api.RLuby, math.MaxInt - 1, api.MaxBudget}, {api.RConstant, math.MaxInt, 3},
		{api.RLuby, 1<<30 - 1, 3 << 29}, {api.RLuby, 1 << 30, 3}, {api.RLuby, 1 << 62, 3}, {api.RLuby, 1<<62 + 6, 12}, {api.RLuby, 1<<41 - 1, api.MaxBudget},
	} {
		if n, e := search.Cutoff(c.how, 3, c.start); n != c.want || e != api.OK {
			t.Error("Cutoff", c.how, c.start, n, c.want, e)
		}
	}
	for _, c := range []struct{ how, start int }{{api.RNone, 1}, {-1, 1}, {4, 1}, {math.MinInt, 1}, {math.MaxInt, 1}, {api.RLuby, 0}, {api.RConstant, -1}, {api.RGeometric, math.MinInt}} {
		if n, e := search.Cutoff(c.how, 3, c.start); n != 0 || e != api.ErrArg {
			t.Error("Cutoff", c.how, c.start, n, e)
		}
	}
}

// P20.3, P5: with so many nodes, and without neighbourhoods, it comes to an end that says something.
func TestEnough(t *testing.T) {
	g := newGame(30)
	for range 1500 {
		p := g.problem(300)
		so := truthOf(p)
		for range 3 {
			o := g.options()
			o.Nodes, o.Lns = 1, 0
			o.Scale = 1 + g.Int64N(100)
			n, e := search.Enough(p, o)
			switch {
			case e != api.OK:
				t.Fatal("Enough", e)
			case o.Restart == api.RConstant:
				if n != api.MaxBudget {
					t.Fatal("Enough of constant ones", n)
				}
				continue
			case n < 1 || n > 200000:
				t.Fatal("Enough", o, n)
			}
			o.Nodes = n
			res := solved(t, p, o)
			honest(t, p, o, res, so)
			if !res.Complete && res.Why != api.ErrOver {
				t.Fatal("not enough", toldProblem(p), o, res.Nodes)
			}
		}
	}
}

// P20.3: without constraints all is gone through: that takes the most nodes.
func TestEnoughOfAll(t *testing.T) {
	for _, d := range [][]api.Dom{nil, {num(r(1, 3)), num(r(1, 3))}, {num(r(0, 299))}, {num(r(1, 6)), set(nil, list(1, 2), 0, 2), num(r(0, 11))}, many(8, num(r(0, 1))), {num(), num(r(-maxBig, maxBig))}} {
		p := api.Problem{Vars: d}
		size := 0
		for range assignments(d) {
			size++
		}
		for _, how := range []int{api.RNone, api.RLuby, api.RGeometric} {
			for _, scale := range []int64{1, 2, 3, 7, 64, 100} {
				for _, nogoods := range []bool{false, true} {
					o := api.Options{All: true, Nodes: 1, Restart: how, Scale: scale, Nogoods: nogoods}
					n, e := search.Enough(p, o)
					if e != api.OK || n < int64(size) || n < 1 || n > 200000 {
						t.Fatal("Enough", o, n, size, e)
					}
					o.Nodes = n
					if res := solved(t, p, o); !res.Complete || len(res.Sols) != size {
						t.Error("not enough", o, len(res.Sols), size)
					}
				}
			}
		}
	}
}

// P20.3: where there is no such number, and at the limit.
func TestEnoughOfTooMuch(t *testing.T) {
	whole := num(r(-maxBig, maxBig))
	wide := set(nil, make([]int64, 0, 64), 0, 64)
	for i := range int64(64) {
		wide.Up = append(wide.Up, i)
	}
	for _, d := range [][]api.Dom{{whole, whole}, {wide}, {wide, wide, whole}, many(api.MaxVars, num(r(0, 1))), many(40, num(r(0, 1)))} {
		for how := api.RNone; how <= api.RGeometric; how++ {
			if n, e := search.Enough(api.Problem{Vars: d}, api.Options{Nodes: 1, Restart: how, Scale: 1}); n != api.MaxBudget || e != api.OK {
				t.Error("Enough", len(d), how, n, e)
			}
		}
	}
	for how, want := range map[int]int64{api.RNone: 1<<21 - 1, api.RConstant: api.MaxBudget, api.RGeometric: 1<<22 - 2, api.RLuby: 21<<21 + 1<<21 - 1} {
		if n, e := search.Enough(api.Problem{Vars: many(20, num(r(0, 1)))}, api.Options{Nodes: 1, Restart: how, Scale: 1}); n != want || e != api.OK {
			t.Error("Enough", how, n, want, e)
		}
	}
	for _, d := range [][]api.Dom{{whole, num(), wide, wide}, {num()}, {}} {
		if n, e := search.Enough(api.Problem{Vars: d}, api.Options{Nodes: 1}); n != 1 || e != api.OK {
			t.Error("Enough of nothing", n, e)
		}
	}
}
