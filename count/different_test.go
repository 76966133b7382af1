package count_test

import (
	"fmt"
	"math/rand/v2"
	"slices"
	"testing"

	"jigsaw/api"
	"jigsaw/cons"
	"jigsaw/count"
	"jigsaw/dom"
)

// P11.6: just what is in some assignment is left.
func TestDifferent(t *testing.T) {
	for _, s := range [][3]string{
		{"fzn_all_different_int([])", "1..2", "same"}, {"fzn_all_different_int([x0])", "1..2", "same"}, {"fzn_all_different_int([x0, x1])", "1..2 1..2", "same"}, {"fzn_all_different_int([x0, x1])", "1..2 2", "1 2"}, {"fzn_all_different_int([x0, x1])", "2 2", "fail"},
		{"fzn_all_different_int([x0, x1, x2])", "1..2 1..2 1..2", "fail"}, {"fzn_all_different_int([x0, x1, x2, x3])", "1..3 1..3 1..3 1..3", "fail"}, {"fzn_all_different_int([x0, x1, x2])", "1,5 1,5 1..9", "1,5 1,5 2..4,6..9"}, {"fzn_all_different_int([x0, x1, x2])", "1,5 1,5 -1000000..1000000", "1,5 1,5 -1000000..0,2..4,6..1000000"},
		{"fzn_all_different_int([x0, x1, x2, x3, x4])", "1..2 2..3 1,3 2..4 3..6", "1..2 2..3 1,3 4 5..6"}, {"fzn_all_different_int([x0, x1, x2, x3])", "1..2 2..3 3..4 4..5", "same"}, {"fzn_all_different_int([x0, x1, x2, x3])", "1..2 2..3 3..4 4", "1 2 3 4"}, {"fzn_all_different_int([x0, x1, x2, x3, x4, x5])", "1..2 1..2 3..4 3..4 1..5 3..6", "1..2 1..2 3..4 3..4 5 6"},
		{"fzn_all_different_int([x0, 3, x1])", "1..4 1..3", "1..2,4 1..2"}, {"fzn_all_different_int([x0, 3, 3])", "1..4", "fail"}, {"fzn_all_different_int([x0, 3, 4, 1, x1])", "1..4 1..5", "2 5"}, {"fzn_all_different_int([x0, 3])", "3", "fail"}, {"fzn_all_different_int([x0, -1000000, 1000000])", "-1000000..1000000", "-999999..999999"},
		{"fzn_all_different_int([x0, x1, x0])", "1..9 1..9", "fail"}, {"fzn_all_different_int([x0, x0])", "-1000000..1000000", "fail"}, {"fzn_all_different_int([x2, x0])", "1 5..9 1..2", "1 5..9 2"},
	} {
		prunes(t, s[0], s[1], s[2])
	}
}

// choices is all ways to give each domain a value no two of which are the same: of each domain the values that stand in one of them.
func choices(d []api.Dom) [][]int64 {
	out := make([][]int64, len(d))
	given := make([]int64, 0, len(d))
	var next func()
	next = func() {
		at := len(given)
		if at == len(d) {
			for i, v := range given {
				out[i] = append(out[i], v)
			}
			return
		}
		for v := range dom.Each(d[at].R) {
			if !slices.Contains(given, v) {
				given = append(given, v)
				next()
				given = given[:at]
			}
		}
	}
	next()
	return out
}

// left holds what Prune answers against the values that should be left.
func left(t *testing.T, c api.Con, d []api.Dom, want [][]int64) {
	t.Helper()
	got, what, e := count.Prune(c, d)
	if e != api.OK || (what == api.Fail) != (len(want[0]) == 0) {
		t.Fatal("Prune", cons.Text(c), told(d), what, e)
	}
	for i := range got {
		if r, _ := dom.Of(want[i]...); !dom.Same(r, got[i].R) {
			t.Fatalf("Prune %s, %s: of %d %s; want %s", cons.Text(c), told(d), i, dom.Text(got[i].R), dom.Text(r))
		}
	}
}

// P11.6: against all choices, of a few variables.
func TestDifferentSmall(t *testing.T) {
	g := rand.New(rand.NewPCG(6, 1))
	seen := map[int]int{}
	for range 20000 {
		d := make([]api.Dom, 1+g.IntN(5))
		size := int64(len(d)) + g.Int64N(3)
		for i := range d {
			d[i] = anyDom(g, size)
		}
		c := different(variables(len(d))...)
		left(t, c, d, choices(d))
		_, what, _ := count.Prune(c, d)
		seen[what]++
	}
	if len(seen) != 3 {
		t.Error("not all of Same, Less, Fail:", seen)
	}
}

// chooser gives variables values, no two of which are the same, in the plainest way.
type chooser struct {
	values [][]int64
	owner  map[int64]int
}

// place gives a variable a value that is not among tried yet; false, if there is none.
func (c chooser) place(x int, tried map[int64]bool) bool {
	for _, v := range c.values[x] {
		if tried[v] {
			continue
		}
		tried[v] = true
		if y, ok := c.owner[v]; !ok || c.place(y, tried) {
			c.owner[v] = x
			return true
		}
	}
	return false
}

// can: is there a choice?
func can(values [][]int64) bool {
	c := chooser{values, map[int64]int{}}
	for x := range values {
		if !c.place(x, map[int64]bool{}) {
			return false
		}
	}
	return true
}

// P11.6: of more variables, value by value; some of them are constants, some have many values.
func TestDifferentMiddle(t *testing.T) {
	g := rand.New(rand.NewPCG(7, 1))
	seen := map[int]int{}
	for range 60 {
		n := 10 + g.IntN(25)
		d, l, values := make([]api.Dom, n), variables(n), make([][]int64, n)
		for i := range d {
			switch g.IntN(5) {
			case 0:
				d[i] = anyDom(g, int64(n)*2)
			default:
				from := g.Int64N(int64(n))
				d[i] = spans(1, from, from+1+g.Int64N(4))[0]
			}
			values[i] = slices.Collect(dom.Each(d[i].R))
		}
		l[0] = cons.Int(values[0][0])
		d[0], values[0] = spans(1, values[0][0], values[0][0])[0], values[0][:1]
		want := make([][]int64, n)
		for i, all := range values {
			for _, v := range all {
				values[i] = []int64{v}
				if can(values) {
					want[i] = append(want[i], v)
				}
			}
			values[i] = all
		}
		left(t, different(l...), d, want)
		_, what, _ := count.Prune(different(l...), d)
		seen[what]++
	}
	if seen[api.Less] < 5 || seen[api.Fail] < 5 {
		t.Error("not enough of Less, Fail:", seen)
	}
}

// P11.6: MaxArray variables: half of them have as many values as they are, which the other half loses; with one value fewer there is no choice.
func TestDifferentGreat(t *testing.T) {
	const half = api.MaxArray / 2
	for _, turn := range []int{0, 1} {
		d := spans(2*half, -maxBig, maxBig)
		for i := range d {
			if i%2 == turn {
				d[i].R = []api.Range{{Lo: 1, Hi: half}}
			}
		}
		c := different(variables(2 * half)...)
		got, what, e := count.Prune(c, d)
		if e != api.OK || what != api.Less || dom.Text(got[turn].R) != "1..500" || dom.Text(got[1-turn].R) != "-1000000..0,501..1000000" || dom.Text(got[2*half-2+turn].R) != "1..500" {
			t.Error("Prune", what, e)
		}
		for i := turn; i < len(d); i += 2 {
			d[i].R = []api.Range{{Lo: 1, Hi: half - 1}}
		}
		if got, what, e := count.Prune(c, d); got != nil || what != api.Fail || e != api.OK {
			t.Error("Prune, one fewer", what, e)
		}
	}
	chain := make([]api.Dom, 2*half) // the one value of the last decides for all
	for i := range chain {
		chain[i].R = []api.Range{{Lo: int64(i), Hi: int64(i) + 1}}
	}
	c := different(variables(2 * half)...)
	if got, what, e := count.Prune(c, chain); what != api.Same || e != api.OK || told(got) != told(chain) {
		t.Error("Prune of a chain", what, e)
	}
	chain[2*half-1].R[0].Hi--
	got, what, e := count.Prune(c, chain)
	if what != api.Less || e != api.OK {
		t.Fatal("Prune of a chain", what, e)
	}
	for i := range got {
		if dom.Text(got[i].R) != fmt.Sprint(i) {
			t.Fatal("Prune of a chain", i, dom.Text(got[i].R))
		}
	}
}

// P11.6: as many variables as values, or one more; the last one of them is left.
func TestDifferentAllValues(t *testing.T) {
	for _, n := range []int{2, 3, 10, api.MaxArray} {
		c := different(variables(n)...)
		if got, what, e := count.Prune(c, spans(n, 1, int64(n))); what != api.Same || e != api.OK || len(got) != n {
			t.Error("Prune, as many", n, what, e)
		}
		if got, what, e := count.Prune(c, spans(n, 1, int64(n)-1)); what != api.Fail || e != api.OK || got != nil {
			t.Error("Prune, one too many", n, what, e)
		}
		d := spans(n, 1, int64(n))
		for i := range n - 1 {
			d[i].R = []api.Range{{Lo: int64(i) + 1, Hi: int64(i) + 1}}
		}
		got, what, e := count.Prune(c, d)
		if what != api.Less || e != api.OK || dom.Text(got[n-1].R) != fmt.Sprint(n) {
			t.Error("Prune, the last one", n, what, e)
		}
	}
}

// P11.2, P11.6: what can not be said in MaxRanges ranges stays in part; nothing is lost, and what there is room for goes.
func TestDifferentFull(t *testing.T) {
	full := make([]api.Range, api.MaxRanges)
	for i := range full {
		full[i] = api.Range{Lo: int64(i) * 10, Hi: int64(i)*10 + 4}
	}
	for _, s := range []struct {
		ranges int
		fixed  []int64
		gone   []int64
	}{
		{api.MaxRanges, []int64{2}, nil},
		{api.MaxRanges, []int64{2, 10, 14, 7}, []int64{10, 14}},
		{api.MaxRanges - 1, []int64{2, 12, 20}, []int64{2, 20}},
		{api.MaxRanges - 3, []int64{2, 12, 22}, []int64{2, 12, 22}},
	} {
		d := []api.Dom{{R: full[:s.ranges]}}
		for _, v := range s.fixed {
			d = append(d, api.Dom{R: []api.Range{{Lo: v, Hi: v}}})
		}
		got, what, e := count.Prune(different(variables(len(d))...), d)
		if e != api.OK || what == api.Fail || !dom.Right(got[0].R) {
			t.Fatal("Prune", s.fixed, what, e)
		}
		gone, _ := dom.Less(d[0].R, got[0].R)
		if want, _ := dom.Of(s.gone...); !dom.Same(gone, want) || (what == api.Same) != (len(s.gone) == 0) {
			t.Error("Prune", s.fixed, "took", dom.Text(gone), what)
		}
	}
}
