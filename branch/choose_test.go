package branch_test

import (
	"fmt"
	"math/rand/v2"
	"slices"
	"testing"

	"jigsaw/api"
	"jigsaw/branch"
)

// model is the document's words of what is chosen, by the lists of all values.
type model struct {
	doms  []api.Dom
	draws []int
	drawn int
}

func (m *model) draw(most int) int {
	if m.drawn == len(m.draws) {
		return 0
	}
	n := ((m.draws[m.drawn] % most) + most) % most
	m.drawn++
	return n
}

func (m *model) open(v int) bool {
	return v >= 0 && v < len(m.doms) && len(values(m.doms[v])) > 1
}

// free is the values of a whole number, or the elements of a set's upper bound that are not in the lower one.
func (m *model) free(v int) []int64 {
	d := m.doms[v]
	var out []int64
	if d.Set {
		for _, n := range d.Up {
			if !slices.Contains(d.Lo, n) {
				out = append(out, n)
			}
		}
		return out
	}
	for _, x := range values(d) {
		out = append(out, x.N)
	}
	return out
}

func (m *model) choose(l []api.Phase) (branch.Dec, bool) {
	all := api.Phase{}
	for v := range m.doms {
		all.Vars = append(all.Vars, v)
	}
	for _, p := range append(slices.Clone(l), all) {
		var open []int
		for _, v := range p.Vars {
			if m.open(v) {
				open = append(open, v)
			}
		}
		if len(open) > 0 {
			v := m.which(p.Select, open)
			return m.what(p.Value, v), true
		}
	}
	return branch.Dec{}, false
}

func (m *model) which(how int, open []int) int {
	better := func(a, b int) bool { return false }
	size := func(v int) int { return len(values(m.doms[v])) }
	switch how {
	case api.VFirst:
		better = func(a, b int) bool { return size(a) < size(b) }
	case api.VAnti:
		better = func(a, b int) bool { return size(a) > size(b) }
	case api.VLeast:
		better = func(a, b int) bool { return slices.Min(m.free(a)) < slices.Min(m.free(b)) }
	case api.VMost:
		better = func(a, b int) bool { return slices.Max(m.free(a)) > slices.Max(m.free(b)) }
	case api.VRandom:
		return open[m.draw(len(open))]
	}
	out := open[0]
	for _, v := range open {
		if better(v, out) {
			out = v
		}
	}
	return out
}

func (m *model) what(how, v int) branch.Dec {
	l := m.free(v)
	lo, hi := l[0], l[len(l)-1]
	if m.doms[v].Set {
		switch how {
		case api.WMax, api.WBack:
			return dec(v, branch.In, hi)
		case api.WRandom:
			return dec(v, branch.In, l[m.draw(len(l))])
		}
		return dec(v, branch.In, lo)
	}
	middle := lo + (hi-lo)/2 // down, for hi is not below lo
	switch how {
	case api.WMax:
		return dec(v, branch.Eq, hi)
	case api.WMedian:
		return dec(v, branch.Eq, l[(len(l)-1)/2])
	case api.WSplit:
		return dec(v, branch.Le, middle)
	case api.WBack:
		return dec(v, branch.Gt, middle)
	case api.WRandom:
		return dec(v, branch.Eq, l[m.draw(len(l))])
	}
	return dec(v, branch.Eq, lo)
}

// P19.2: what is chosen, and how much is drawn, by the document's words; P19.5: both sides have values, and neither has all.
func TestChoose(t *testing.T) {
	rnd := rand.New(rand.NewPCG(19, 2))
	chosen := map[int]int{}
	for range 20000 {
		d, l := drawnDoms(rnd), drawnPhases(rnd)
		var draws []int
		for range rnd.IntN(4) {
			draws = append(draws, rnd.IntN(60)-30)
		}
		kept, phases := copyDoms(d), fmt.Sprint(l)
		m := &model{doms: d, draws: draws}
		want, wanted := m.choose(l)
		r := branch.NewDraws(draws)
		got, ok := branch.Choose(l, d, r)
		if got != want || ok != wanted || r.Left() != len(draws)-m.drawn {
			t.Fatal("Choose", l, d, draws, branch.Text(got), ok, r.Left(), branch.Text(want), wanted)
		}
		if !slices.EqualFunc(d, kept, sameDom) || fmt.Sprint(l) != phases {
			t.Fatal("what was handed in is changed")
		}
		if !ok {
			continue
		}
		chosen[got.Op]++
		for _, x := range []branch.Dec{got, branch.Not(got)} {
			side, e := branch.Apply(d[got.Var], x)
			if n := len(values(side)); e != api.OK || n == 0 || n == len(values(d[got.Var])) {
				t.Fatal("it does not go on", d[got.Var], branch.Text(x), n, e)
			}
		}
	}
	for _, op := range []int{branch.Eq, branch.Le, branch.Gt, branch.In} {
		if chosen[op] < 200 {
			t.Error("too few", op, chosen)
		}
	}
}

// P19.6: without random selectors nothing is drawn, and nothing hangs on draws.
func TestChooseWithoutDraws(t *testing.T) {
	rnd := rand.New(rand.NewPCG(19, 6))
	for range 3000 {
		d, l := drawnDoms(rnd), drawnPhases(rnd)
		for i := range l {
			l[i].Select, l[i].Value = l[i].Select%api.VRandom, l[i].Value%api.WRandom
		}
		want, wanted := branch.Choose(l, d, nil)
		r := branch.NewDraws([]int{3, 1, 2})
		if got, ok := branch.Choose(l, d, r); got != want || ok != wanted || r.Left() != 3 {
			t.Fatal("Choose", l, d, branch.Text(got), branch.Text(want), r.Left())
		}
	}
}

// P19.2: the edges that random domains seldom meet.
func TestChooseEdges(t *testing.T) {
	whole := num(r(-maxBig, maxBig))
	wide := set(nil, make([]int64, 0, 64), 0, 64)
	for i := range int64(64) {
		wide.Up = append(wide.Up, i-7)
	}
	comb := comb(api.MaxRanges)
	for _, c := range []struct {
		p    api.Phase
		d    []api.Dom
		want string
	}{
		{api.Phase{Vars: []int{0}, Value: api.WSplit}, []api.Dom{num(r(-4, -3))}, "x0 <= -4"},
		{api.Phase{Vars: []int{0}, Value: api.WBack}, []api.Dom{num(r(-4, -3))}, "x0 > -4"},
		{api.Phase{Vars: []int{0}, Value: api.WSplit}, []api.Dom{num(r(-4, -4), r(1, 1))}, "x0 <= -2"},
		{api.Phase{Vars: []int{0}, Value: api.WSplit}, []api.Dom{whole}, "x0 <= 0"},
		{api.Phase{Vars: []int{0}, Value: api.WMedian}, []api.Dom{whole}, "x0 = 0"},
		{api.Phase{Vars: []int{0}, Value: api.WMedian}, []api.Dom{num(r(1, 1), r(5, 6), r(9, 9))}, "x0 = 5"},
		{api.Phase{Vars: []int{0}, Value: api.WMedian}, []api.Dom{comb}, "x0 = 8190"},
		{api.Phase{Vars: []int{0, 1}, Select: api.VAnti}, []api.Dom{whole, wide}, "x1 has -7"},
		{api.Phase{Vars: []int{1, 0}, Select: api.VFirst}, []api.Dom{whole, wide}, "x0 = -1000000"},
		{api.Phase{Vars: []int{0, 1}, Select: api.VLeast, Value: api.WMax}, []api.Dom{num(r(-6, 0)), wide}, "x1 has 56"},
		{api.Phase{Vars: []int{1, 0}, Select: api.VMost, Value: api.WMax}, []api.Dom{num(r(-6, 57)), wide}, "x0 = 57"},
		{api.Phase{Vars: []int{1, 1, 0}, Select: api.VFirst}, []api.Dom{num(r(1, 2)), num(r(3, 4))}, "x1 = 3"},
		{api.Phase{Vars: []int{2}, Select: api.VAnti, Value: api.WMax}, []api.Dom{num(r(4, 4)), num(r(1, 2)), num(r(1, 1))}, "x1 = 1"},
	} {
		x, ok := branch.Choose([]api.Phase{c.p}, c.d, nil)
		if !ok || branch.Text(x) != c.want {
			t.Error("Choose", c.p, branch.Text(x), ok, c.want)
		}
	}
	for _, d := range [][]api.Dom{nil, {}, {num()}, {num(r(1, 1)), noSet()}, wrongDoms()} {
		draws := branch.NewDraws([]int{1, 2})
		x, ok := branch.Choose([]api.Phase{{Vars: []int{0, 1}, Select: api.VRandom, Value: api.WRandom}}, d, draws)
		if x != (branch.Dec{}) || ok || draws.Left() != 2 {
			t.Error("Choose of what has no several values", d, x, ok, draws.Left())
		}
	}
}

// P19.2: it draws first for the variable, then for the value, one each, if there is but one, too.
func TestChooseDraws(t *testing.T) {
	d := []api.Dom{num(r(1, 4)), num(r(2, 3)), num(r(1, 1)), set(nil, list(5, 6, 7), 0, 3)}
	l := []api.Phase{{Vars: []int{2, 0, 1, 3}, Select: api.VRandom, Value: api.WRandom}}
	for _, c := range []struct {
		draws []int
		want  string
	}{{nil, "x0 = 1"}, {[]int{1}, "x1 = 2"}, {[]int{3, 3}, "x0 = 4"}, {[]int{-1, 4}, "x3 has 6"}, {[]int{4, -1}, "x1 = 3"}} {
		r := branch.NewDraws(append(slices.Clone(c.draws), make([]int, 5)...))
		if x, ok := branch.Choose(l, d, r); !ok || branch.Text(x) != c.want || r.Left() != len(c.draws)+3 {
			t.Error("Choose", c.draws, branch.Text(x), r.Left())
		}
	}
	r := branch.NewDraws([]int{5, 1})
	if x, ok := branch.Choose([]api.Phase{{Vars: []int{1}, Select: api.VRandom, Value: api.WRandom}}, d, r); !ok || branch.Text(x) != "x1 = 3" || r.Left() != 0 {
		t.Error("Choose of one", branch.Text(x), r.Left())
	}
}

// P19.2: the variables with several values, rising; what is written behind the call plays no part, and the iterator can be left.
func TestOpen(t *testing.T) {
	d := []api.Dom{num(r(1, 2)), num(r(1, 1)), num(), set(nil, list(1), 0, 1), noSet(), set(nil, list(1, 2), 2, 2), num(r(2, 1)), num(r(1, 1), r(3, 3)), {R: []api.Range{r(1, 5)}, Least: 1}}
	open := branch.Open(d)
	for i := range d {
		d[i] = num()
	}
	alike(t, "Open", fmt.Sprint(slices.Collect(open)), "[0 3 7]")
	alike(t, "Open again", fmt.Sprint(slices.Collect(open)), "[0 3 7]")
	for v := range open {
		alike(t, "the first one", v, 0)
		break
	}
	alike(t, "Open of none", len(slices.Collect(branch.Open(nil))), 0)
	alike(t, "Open of wrong ones", len(slices.Collect(branch.Open(wrongDoms()))), 0)
}
