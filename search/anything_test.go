package search_test

import (
	"testing"

	"jigsaw/api"
	"jigsaw/branch"
	"jigsaw/kinds"
	"jigsaw/post"
	"jigsaw/search"
)

// P1: whatever is handed in, each call ends and answers.
func TestAnything(t *testing.T) {
	g := newGame(1)
	numbers := list(least, -maxBig-1, -1, 0, 1, 2, 3, maxBig, maxBig+1, api.MaxBudget, greatest)
	n := func() int64 { return numbers[g.IntN(len(numbers))] }
	small := func() int { return int(n()) }
	some := func() []int64 { return []int64{n(), n(), n()}[:g.IntN(4)] }
	anyDom := func() api.Dom {
		return api.Dom{Set: g.IntN(2) == 0, R: []api.Range{r(n(), n()), r(n(), n())}[:g.IntN(3)], Lo: some(), Up: some(), Least: small(), Most: small()}
	}
	refused := 0
	for range 3000 {
		p, o := g.problem(50), g.options()
		switch g.IntN(8) {
		case 0:
			p.Vars[g.IntN(4)] = anyDom()
		case 1:
			p.Goal, p.Of = small(), small()
		case 2:
			p.Phases = append(p.Phases, api.Phase{Vars: []int{small()}, Select: small(), Value: small()})
		case 3:
			p.Cons = append(p.Cons, api.Con{Name: "int_le", Args: []api.Arg{{Array: g.IntN(2) == 0, L: []api.Term{{Var: small(), C: api.Val{N: n()}}}}}})
		case 4:
			p.Outs = append(p.Outs, api.Out{L: []api.Term{{Var: small()}}})
		case 5:
			o = api.Options{Nodes: min(n(), 3000), Restart: small(), Scale: n(), Lns: small(), Draws: []int{small(), small()}}
		}
		res, e := search.Solve(p, o)
		want := post.Right(p)
		if want == api.OK {
			want = search.Right(o)
		}
		enough, f := search.Enough(p, o)
		if e != want || f != want || want != api.OK && (res.Sols != nil || res.Nodes != 0 || enough != 0) || want == api.OK && (enough < 1 || enough > api.MaxBudget) {
			t.Fatal("Solve, Enough", e, f, want, res, enough)
		}
		if want != api.OK {
			refused++
		}
		search.Cutoff(small(), n(), small())
	}
	if refused < 500 {
		t.Error("too few are refused", refused)
	}
	for range 3000 {
		nogoods := search.New()
		for range g.IntN(4) {
			nogoods.Add(branch.Dec{Var: small(), Op: g.IntN(8) - 1, N: n()}, branch.Dec{Var: g.IntN(4), Op: g.IntN(6), N: n()})
		}
		d := []api.Dom{anyDom(), g.dom(true), g.dom(false)}[g.IntN(2):]
		got, what, e := nogoods.Prune(d)
		if e == api.OK && what != api.Fail && len(got) != len(d) || e != api.OK && (e != api.ErrDom || kinds.Right(d[0])) {
			t.Fatal("Prune", d, got, what, e)
		}
		nogoods.Holds([]api.Val{{Set: g.IntN(2) == 0, N: n(), S: some()}, {N: n()}})
	}
}
