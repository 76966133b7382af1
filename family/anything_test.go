package family_test

import (
	"math"
	"testing"

	"jigsaw/api"
	"jigsaw/cons"
)

// anyTerm is any term at all, mostly one that might be right.
func (g game) anyTerm() api.Term {
	letters := []string{"I", "B", "S", "i", "b", "s"}
	if g.IntN(12) > 0 {
		return g.term(letters[g.IntN(len(letters))])
	}
	odd := []int64{math.MinInt64, -maxBig - 1, -1, 0, 7, maxBig + 1, api.Coef + 1, math.MaxInt64}
	return api.Term{Var: int(odd[g.IntN(len(odd))]), C: api.Val{Set: g.IntN(2) == 0, N: odd[g.IntN(len(odd))], S: list(odd[:g.IntN(4)]...)}}
}

// anyCon is a constraint of that name whose arguments are nearly as its form says, or not at all.
func (g game) anyCon(name string) api.Con {
	c := g.con(name)
	for range g.IntN(4) {
		if len(c.Args) == 0 {
			break
		}
		a := &c.Args[g.IntN(len(c.Args))]
		switch g.IntN(5) {
		case 0:
			a.Array = !a.Array
		case 1:
			a.L = append(a.L, g.anyTerm())
		case 2:
			c.Args = c.Args[1:]
		default:
			for i := range a.L {
				a.L[i] = g.anyTerm()
			}
		}
	}
	return c
}

// P1: whatever is handed in, no call panics, and beside an error there is nothing else.
func TestAnything(t *testing.T) {
	wrong := map[bool][]api.Dom{true: wrongDoms(true), false: wrongDoms(false)}
	each(t, func(t *testing.T, f face, name string, g game) {
		errors := map[api.Errno]int{}
		for range 1000 {
			c, d := g.anyCon(name), g.doms()
			v := make([]api.Val, g.IntN(gameVars+1))
			for n := range v {
				v[n] = g.anyTerm().C
			}
			for n, s := range gameKinds() {
				if g.IntN(8) == 0 {
					d[n] = wrong[s][g.IntN(len(wrong[s]))]
				}
			}
			d = d[:gameVars-g.IntN(2)*g.IntN(gameVars)]
			if ok, e := f.holds(c, v); ok && e != api.OK {
				t.Fatal("Holds", cons.Text(c), ok, e)
			}
			got, what, e := f.prune(c, d)
			if e != api.OK && (got != nil || what != 0) {
				t.Fatal("Prune", cons.Text(c), got, what, e)
			}
			if want := cons.Right(c, gameKinds()[:len(d)]); want != api.OK && e != want {
				t.Fatal("Prune", cons.Text(c), e, want)
			}
			errors[e]++
		}
		if errors[api.OK] == 0 || errors[api.ErrCon] == 0 || errors[api.ErrDom] == 0 {
			t.Error("not all were asked for:", errors)
		}
	})
}
