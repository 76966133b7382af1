package matching_test

import (
	"math/rand/v2"
	"testing"

	"jigsaw/api"
	"jigsaw/cons"
	"jigsaw/dom"
	"jigsaw/family"
	"jigsaw/matching"
)

// anyway is a constraint of which all holds; what it does to domains is handed in.
type anyway struct{ does func(d *family.Doms) }

func (anyway) Holds([]api.Val) bool    { return true }
func (a anyway) Narrow(d *family.Doms) { a.does(d) }

// work does something to the domains of variables, and answers what is left, and what became of them.
func work(t *testing.T, from []api.Dom, does func(d *family.Doms, terms []api.Term)) ([]api.Dom, int) {
	t.Helper()
	var l []api.Term
	for n := range from {
		l = append(l, cons.Var(n))
	}
	c := api.Con{Name: "fzn_all_equal_int", Args: []api.Arg{cons.List(l...)}}
	read := func(api.Con) family.Plain {
		return anyway{func(d *family.Doms) { does(d, l) }}
	}
	got, what, e := family.Prune(family.PlainRules("count", read), c, from)
	if e != api.OK {
		t.Fatal("Prune", e)
	}
	return got, what
}

// anyDoms is some domains of values from 1 to a few more than there are domains, or fewer.
func anyDoms(g *rand.Rand) []api.Dom {
	out := make([]api.Dom, g.IntN(6))
	most := 1 + g.Int64N(int64(len(out))+3)
	for i := range out {
		l := []int64{1 + g.Int64N(most)}
		for range g.Int64N(most) {
			l = append(l, 1+g.Int64N(most))
		}
		out[i].R, _ = dom.Of(l...)
	}
	return out
}

// choices goes through all values of the domains, and tells how many of them are not the same.
func choices(d []api.Dom, tell func(l []int64, variants int)) {
	given := make([]int64, len(d))
	var from func(at int)
	from = func(at int) {
		if at == len(d) {
			seen := map[int64]bool{}
			for _, v := range given {
				seen[v] = true
			}
			tell(given, len(seen))
			return
		}
		for v := range dom.Each(d[at].R) {
			given[at] = v
			from(at + 1)
		}
	}
	from(0)
}

// Different leaves just what is in some choice; Most is how many values there are in the choice with the most of them.
func TestAgainstAllChoices(t *testing.T) {
	g := rand.New(rand.NewPCG(1, 1))
	for range 3000 {
		d := anyDoms(g)
		most, want := 0, make([][]int64, len(d))
		choices(d, func(l []int64, variants int) {
			most = max(most, variants)
			for i, v := range l {
				if variants == len(l) {
					want[i] = append(want[i], v)
				}
			}
		})
		got, what := work(t, d, matching.Different)
		if (what == api.Fail) != (most < len(d)) {
			t.Fatal("Different", d, what)
		}
		for i := range got {
			if r, _ := dom.Of(want[i]...); !dom.Same(got[i].R, r) {
				t.Fatal("Different", d, i, got[i], "want", r)
			}
		}
		work(t, d, func(d *family.Doms, terms []api.Term) {
			if n := matching.Most(d, terms); n != most {
				t.Fatal("Most", n, "want", most)
			}
		})
	}
}

// Constants among the terms, and a variable that stands twice.
func TestTerms(t *testing.T) {
	from := []api.Dom{{R: []api.Range{{Lo: 1, Hi: 2}}}, {R: []api.Range{{Lo: 1, Hi: 9}}}}
	for _, s := range []struct {
		more []api.Term
		want string
		what int
	}{
		{nil, "1..2 1..9", api.Same},
		{[]api.Term{cons.Int(2)}, "1 3..9", api.Less},
		{[]api.Term{cons.Int(2), cons.Int(1)}, "", api.Fail},
		{[]api.Term{cons.Int(5), cons.Int(5)}, "", api.Fail},
		{[]api.Term{cons.Var(1)}, "", api.Fail},
	} {
		got, what := work(t, from, func(d *family.Doms, terms []api.Term) { matching.Different(d, append(terms, s.more...)) })
		text := ""
		if what != api.Fail {
			text = dom.Text(got[0].R) + " " + dom.Text(got[1].R)
		}
		if text != s.want || what != s.what {
			t.Error(s.more, text, what)
		}
	}
}

// Long ways to a free value: each term but the last one has to give its value to the next one.
func TestLongWays(t *testing.T) {
	const n = 1000
	d := make([]api.Dom, n)
	for i := range d {
		d[i].R = []api.Range{{Lo: int64(i), Hi: int64(i) + 1}}
	}
	d[n-1].R = []api.Range{{Lo: 0, Hi: 0}}
	got, what := work(t, d, matching.Different)
	if what != api.Less {
		t.Fatal("Different", what)
	}
	for i := range n - 1 {
		if dom.Text(got[i].R) != dom.Text([]api.Range{{Lo: int64(i) + 1, Hi: int64(i) + 1}}) {
			t.Fatal("Different", i, got[i])
		}
	}
	d[n-2].R = []api.Range{{Lo: n - 2, Hi: n - 2}}
	if got, what := work(t, d, matching.Different); what != api.Fail || got != nil {
		t.Error("Different", what)
	}
	work(t, d, func(d *family.Doms, terms []api.Term) {
		if most := matching.Most(d, terms); most != n-1 {
			t.Error("Most", most)
		}
	})
}
